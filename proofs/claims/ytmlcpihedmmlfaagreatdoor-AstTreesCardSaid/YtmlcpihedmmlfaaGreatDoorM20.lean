/- An expression gone through: what is told, one by one. -/
import Derived.Deep.LoopGhost
import Derived.Test.YtmlcpihedmmlfaaGreatDoorM14
import Derived.Test.YtmlcpihedmmlfaaGreatDoorM3
import Derived.Test.YtmlcpihedmmlfaaGreatDoorM7
import Derived.Test.YtmlcpihedmmlfaaGreatDoorM12
set_option linter.unusedVariables false
set_option linter.unusedSimpArgs false
namespace Go.Proofs.YtmlcpihedmmlfaaGreatDoor
open Go.RowKit

def kidsE : Ex → List Ex
  | .mk _ _ _ _ _ ks _ => ks
section
variable {σ : Type} (st : σ → Ex → Nat → σ)
mutual
/-- What is told of an expression, by steps. -/
def runE : Ex → σ → σ
  | .mk op nm md nu ys ks ps, s => runK (.mk op nm md nu ys ks ps) 0 ks (st s (.mk op nm md nu ys ks ps) 0)
def runK (x : Ex) : Nat → List Ex → σ → σ
  | _, [], s => s
  | j, k :: l, s => runK x (j + 1) l (st (runE k s) x (j + 1))
end
end
mutual
def cntE : Ex → Nat
  | .mk _ _ _ _ _ ks _ => 1 + cntK ks
def cntK : List Ex → Nat
  | [] => 0
  | k :: l => cntE k + 1 + cntK l
end
/-- An expression that is gone through: how many of its kids are done, and where it lies. -/
structure Fm where
  x : Ex
  d : Nat
  g : Nat
  o : Nat
def rsF {σ : Type} (st : σ → Ex → Nat → σ) (f : Fm) (s : σ) : σ := runK st f.x f.d ((kidsE f.x).drop f.d) (st s f.x f.d)
def runG {σ : Type} (st : σ → Ex → Nat → σ) (G : List Fm) (s : σ) : σ := G.foldr (rsF st) s
def cntF (f : Fm) : Nat := 1 + cntK ((kidsE f.x).drop f.d)
def cntG (G : List Fm) : Nat := (G.map cntF).sum
theorem runE_eq {σ : Type} (st : σ → Ex → Nat → σ) (x : Ex) (s : σ) (g o : Nat) : runE st x s = rsF st ⟨x, 0, g, o⟩ s := by
  cases x with
  | mk op nm md nu ys ks ps => simp only [runE, rsF, kidsE, List.drop_zero]
theorem cntE_eq (x : Ex) (g o : Nat) : cntE x = cntF ⟨x, 0, g, o⟩ := by
  cases x with
  | mk op nm md nu ys ks ps => simp only [cntE, cntF, kidsE, List.drop_zero]
theorem runG_snoc {σ : Type} (st : σ → Ex → Nat → σ) (G : List Fm) (f : Fm) (s : σ) : runG st (G ++ [f]) s = runG st G (rsF st f s) := by unfold runG; rw [List.foldr_append]; rfl
theorem cntG_snoc (G : List Fm) (f : Fm) : cntG (G ++ [f]) = cntG G + cntF f := by unfold cntG; simp
theorem rsF_done {σ : Type} (st : σ → Ex → Nat → σ) {f : Fm} (h : f.d = (kidsE f.x).length) (s : σ) : rsF st f s = st s f.x f.d ∧ cntF f = 1 := by
  unfold rsF cntF
  rw [h, List.drop_length]; exact ⟨rfl, rfl⟩
theorem rsF_kid {σ : Type} (st : σ → Ex → Nat → σ) {f : Fm} {k : Ex} (h : (kidsE f.x)[f.d]? = some k) (s : σ) (g o : Nat) : rsF st f s = rsF st { f with d := f.d + 1 } (rsF st ⟨k, 0, g, o⟩ (st s f.x f.d)) ∧ cntF f = 1 + (cntF { f with d := f.d + 1 } + cntF ⟨k, 0, g, o⟩) := by
  have e : (kidsE f.x).drop f.d = k :: (kidsE f.x).drop (f.d + 1) := by
    have h1 := (List.getElem?_eq_some_iff.1 h)
    obtain ⟨h1, h2⟩ := h1
    rw [List.drop_eq_getElem_cons h1, h2]
  constructor
  · rw [← runE_eq]
    unfold rsF
    rw [e]
    simp only [runK]
  · rw [← cntE_eq]
    unfold cntF
    rw [e]
    simp only [cntK]
    omega

/-- An expression lies at an address. -/
def PAtE (F : Nat → Prop) (w : World) (g o : Nat) (x : Ex) : Prop := F g ∧ g < w.heap.size ∧ ∃ q, q.length = 8 ∧ (∀ (i : Nat) (v : Value), q[i]? = some v → w.cell? ⟨g, o + i, none⟩ = some v) ∧ EAt F w x q
theorem EAt.len {F : Nat → Prop} {w : World} {x : Ex} {q : List Value} (h : EAt F w x q) : q.length = 8 := by
  cases x with
  | mk op nm md nu ys ks ps =>
    simp only [EAt] at h
    obtain ⟨s, pw, nw, cw, pk, ck, rows, rfl, -⟩ := h
    rfl
theorem PAtE.same {F S : Nat → Prop} {w w' : World} {g o : Nat} {x : Ex} (h : PAtE F w g o x) (hg : Fr2 S w w') (hS : ∀ k, F k → ¬ S k) : PAtE F w' g o x := by
  obtain ⟨hF, hl, q, hq, hc, he⟩ := h
  exact ⟨hF, Nat.lt_of_lt_of_le hl hg.size, q, hq, fun i v hi => by rw [World.cell?_of_block (w := w) (hg.block g hl (hS g hF))]; exact hc i v hi, EAt.same hg hS he⟩
/-- The cells that a walk reads: how many kids, and where. -/
theorem PAtE.kids {F : Nat → Prop} {w : World} {g o : Nat} {x : Ex} (h : PAtE F w g o x) : ∃ pk ck, w.cell? ⟨g, o + 6, none⟩ = some (.slice pk (kidsE x).length ck) ∧ ∀ (j : Nat) (k : Ex), (kidsE x)[j]? = some k → ∃ g' o', pk = some ⟨g', o', none⟩ ∧ PAtE F w g' (o' + j * 8) k := by
  cases x with
  | mk op nm md nu ys ks ps =>
    obtain ⟨hF, hl, q, hq, hc, he⟩ := h
    simp only [EAt] at he
    obtain ⟨s, pw, nw, cw, pk, ck, rows, rfl, h2, h3, h4, h5⟩ := he
    refine ⟨pk, ck, hc 6 _ rfl, fun j k hk => ?_⟩
    have hk : ks[j]? = some k := hk
    have hne : ks ≠ [] := fun e => by rw [e] at hk; simp at hk
    obtain ⟨⟨g', o', x'⟩, ha, hFa⟩ := h5 hne
    obtain ⟨r, hr, hre⟩ := Ls_get h4 hk
    obtain ⟨g2, o2, hp, hl2, hc2⟩ := h3.resolve_left (fun e => by rw [e] at hr; simp at hr)
    rw [ha] at hp
    simp only [Option.some.injEq, Addr.mk.injEq] at hp
    obtain ⟨rfl, rfl, rfl⟩ := hp
    exact ⟨g', o', ha, hFa, hl2, r, EAt.len hre, fun i v hi => hc2 j r hr i v hi, hre⟩
theorem kid_size : ∀ (ks : List Ex) (j : Nat) (k : Ex), ks[j]? = some k → cntE k ≤ cntK ks
  | [], j, k, h => by simp at h
  | y :: l, j, k, h => by
    simp only [cntK]
    match j, h with
    | 0, h => simp at h; subst h; omega
    | j + 1, h => have := kid_size l j k (by simpa using h); omega
theorem kids_count : ∀ ks : List Ex, ks.length ≤ cntK ks
  | [] => Nat.zero_le _
  | y :: l => by have := kids_count l; simp only [cntK, List.length_cons]; omega

def rowF (f : Fm) : List Value := [.pointer (some ⟨f.g, f.o, none⟩), .int .i64 (f.d : Int)]
theorem infoP : (Tryz.prog.info? 152).map (fun i => (i.zero, i.size, i.bytes)) = some (some (.agg #[.pointer none, .int .i64 0]), 2, 16) := by kernel_rfl

theorem OwnG.okept {s : Nat} {T : TypeId} {w w' : World} {base b : Nat} {v : Value} {l : List (List Value)} (h : OwnG s T w base v l) (hg : OKept b w w') (hT : T ≠ 5) (hb : b < base) : OwnG s T w' base v l :=
  ⟨⟨h.1.1, h.1.2.imp id fun ⟨g, cap, cur, e, hb1, hh, r⟩ => ⟨g, cap, cur, e, hb1, hg g cur T hh hT (by omega), r⟩⟩, h.2⟩
theorem OwnG.blk {s : Nat} {T : TypeId} {w : World} {base g n c : Nat} {l : List (List Value)} (h : OwnG s T w base (.slice (some ⟨g, 0, none⟩) n c) l) : base ≤ g ∧ ∃ cur, w.heap[g]? = some (.cells cur T (0, 0)) := by
  rcases h.1.2 with ⟨h1, h0⟩ | ⟨g', cap, cur, e, hb, hg, r⟩
  · cases h1
  · injection e with e1 e2 e3
    injection e1 with e1
    injection e1 with e1
    subst e1
    exact ⟨hb, cur, hg⟩

theorem OwnG.pop {s n c : Nat} {T : TypeId} {w : World} {base : Nat} {p : Option Addr} {l : List (List Value)} {q : List Value} (h : OwnG s T w base (.slice p n c) (l ++ [q])) : n = l.length + 1 ∧ OwnG s T w base (.slice p l.length c) l ∧ ∃ g, p = some ⟨g, 0, none⟩ := by
  have h2 := h.1
  have hw := h.2
  rw [List.length_append, List.length_singleton] at h2
  rcases h2.2 with ⟨e, h0⟩ | ⟨g, cap, cur, e, hb, hg, hnc, hcm, hsz, ht⟩
  · omega
  · injection e with e1 e2 e3
    subst e1; subst e2; subst e3
    refine ⟨rfl, ⟨⟨flat_len (fun q hq => hw q (List.mem_append_left _ hq)), .inr ⟨g, c, cur, rfl, hb, hg, by omega, hcm, hsz, ?_⟩⟩, fun q hq => hw q (List.mem_append_left _ hq)⟩, g, rfl⟩
    have hfl := flat_len (fun q hq => hw q (List.mem_append_left _ hq) : Wid s l)
    have h3 : (cur.toList.take ((l.length + 1) * s)).take (l.length * s) = l.flatten := by
      rw [ht, List.flatten_append, List.take_append_of_le_length (by omega), List.take_of_length_le (by omega)]
    rw [List.take_take, Nat.min_eq_left (Nat.mul_le_mul_right _ (by omega))] at h3
    exact h3
theorem OwnG.new {s : Nat} {T : TypeId} (w : World) (base : Nat) (y : List Value) (hy : y.length = s) (h1 : ∀ u ∈ y, u.oneCell' = true) (hb : base ≤ w.heap.size) : OwnG s T (w.alloc (.cells y.toArray T)) base (.slice (some ⟨w.heap.size, 0, none⟩) 1 1) [y] := by
  refine ⟨⟨by simp [hy], .inr ⟨w.heap.size, 1, y.toArray, rfl, hb, heap_alloc_new w _, Nat.le_refl _, by unfold maxLen; omega, by simp [hy], ?_⟩⟩, fun q hq => by simp at hq; subst hq; exact ⟨hy, h1⟩⟩
  subst hy
  simp
theorem OwnG.last2 {n c g : Nat} {T : TypeId} {w : World} {base : Nat} {l : List (List Value)} {a b u : Value} (hu : u.oneCell' = true) (h : OwnG 2 T w base (.slice (some ⟨g, 0, none⟩) n c) (l ++ [[a, b]])) : OwnG 2 T (w.setCell ⟨g, l.length * 2 + 1, none⟩ u) base (.slice (some ⟨g, 0, none⟩) n c) (l ++ [[a, u]]) ∧ w.grownBy (w.setCell ⟨g, l.length * 2 + 1, none⟩ u) (some g) := by
  have hn := h.pop.1
  subst hn
  have hw := h.2
  have hwl : Wid 2 l := fun q hq => hw q (List.mem_append_left _ hq)
  have h1 := h.1
  rw [List.length_append, List.length_singleton] at h1
  have h2 := World.ownsRow.stored h1 (l.length * 2 + 1) u
  refine ⟨⟨?_, fun q hq => ?_⟩, h2.2⟩
  · have e : (l ++ [[a, u]]).flatten = ((l ++ [[a, b]]).flatten).set (l.length * 2 + 1) u := by
      rw [List.flatten_append, List.flatten_append, List.set_append, if_neg (by rw [flat_len hwl]; omega), flat_len hwl]
      simp
    rw [e, List.length_append, List.length_singleton]
    exact h2.1
  · rcases List.mem_append.1 hq with hq | hq
    · exact hwl q hq
    · simp at hq; subst hq
      refine ⟨rfl, fun v hv => ?_⟩
      simp at hv
      rcases hv with rfl | rfl
      · exact (hw [v, b] (by simp)).2 v (by simp)
      · exact hu
theorem OwnG.top2 {n c g : Nat} {T : TypeId} {w : World} {base : Nat} {l : List (List Value)} {a b : Value} (h : OwnG 2 T w base (.slice (some ⟨g, 0, none⟩) n c) (l ++ [[a, b]])) : w.cell? ⟨g, l.length * 2, none⟩ = some a ∧ w.cell? ⟨g, l.length * 2 + 1, none⟩ = some b ∧ (∀ j, w.frozen? ⟨g, j, none⟩ = false) ∧ g < w.heap.size ∧ l.length + 1 ≤ c ∧ c ≤ maxLen := by
  have hn := h.pop.1
  subst hn
  obtain ⟨p, c', e, hga, h1, h2, -⟩ := h.is
  injection e with e1 e2 e3
  subst e1; subst e3
  obtain ⟨g2, o2, hp2, hgl, hcs⟩ := hga.resolve_left (by simp)
  injection hp2 with hp2; injection hp2 with hp2 hp3; subst hp2 hp3
  have a0 := hcs l.length [a, b] (by simp) 0 _ rfl
  have a1 := hcs l.length [a, b] (by simp) 1 _ rfl
  rw [Nat.zero_add, Nat.add_zero] at a0
  rw [Nat.zero_add] at a1
  have h3 := h.1
  rw [List.length_append, List.length_singleton] at h3 h1
  exact ⟨a0, a1, fun j => World.ownsRow.frozenAt h3 j, hgl, h1, h2⟩
theorem list_last8 {α : Type} (l : List α) : l = [] ∨ ∃ l' x, l = l' ++ [x] := by
  rcases List.eq_nil_or_concat l with h | ⟨l', x, h⟩
  · exact .inl h
  · exact .inr ⟨l', x, by simpa using h⟩
theorem cntF_pos (f : Fm) : 1 ≤ cntF f := by unfold cntF; omega
theorem cntG_len : ∀ G : List Fm, G.length ≤ cntG G
  | [] => Nat.zero_le _
  | f :: G => by
    have h1 := cntG_len G
    have h2 := cntF_pos f
    have e : cntG (f :: G) = cntF f + cntG G := by unfold cntG; simp
    rw [e, List.length_cons]; omega
end Go.Proofs.YtmlcpihedmmlfaaGreatDoor
namespace Go.Proofs.YtmlcpihedmmlfaaGreatDoor
open Go.RowKit

/-- What a function that is told does, and what it needs. -/
structure Tell {σ : Type} (st : σ → Ex → Nat → σ) (tf b B : Nat) (F : Nat → Prop) (P : σ → World → Prop) (L : σ → Prop) (Q : Ex → Prop) : Prop where
  below : ∀ k, F k → k < B
  box : B ≤ b
  tell : ∀ (s : σ) (f : Fm) (w : World), P s w → B ≤ w.heap.size → PAtE F w f.g f.o f.x → f.d ≤ (kidsE f.x).length → Q f.x → L (st s f.x f.d) → Calls Tryz.prog tf #[.pointer (some ⟨f.g, f.o, none⟩), .int .i64 (f.d : Int), .pointer (some ⟨b, 0, none⟩)] w (fun e w' => e = .returned (.tuple #[]) ∧ P (st s f.x f.d) w' ∧ Below B w w' ∧ OKept b w w')
  mono : ∀ s x d, L (st s x d) → L s
  kids : ∀ x k, Q x → k ∈ kidsE x → Q k
  grown : ∀ s w w', P s w → w.grownBy w' none → P s w'
  placed : ∀ s w w' g cs, P s w → w.grownBy w' (some g) → w.heap[g]? = some (.cells cs 152 (0, 0)) → g ≠ b → P s w'
theorem Tell.at {σ : Type} {st : σ → Ex → Nat → σ} {tf b B : Nat} {F : Nat → Prop} {P : σ → World → Prop} {L : σ → Prop} {Q : Ex → Prop} (h : Tell st tf b B F P L Q) {w w' : World} {g o : Nat} {x : Ex} (hp : PAtE F w g o x) (hb : Below B w w') : PAtE F w' g o x :=
  hp.same (Fr2.ofBelow hb) (fun k hk e => by have := h.below k hk; omega)

mutual
theorem runE_mono {σ : Type} {st : σ → Ex → Nat → σ} {L : σ → Prop} (hm : ∀ s x d, L (st s x d) → L s) : ∀ (x : Ex) (s : σ), L (runE st x s) → L s
  | .mk op nm md nu ys ks ps, s, h => by
    simp only [runE] at h
    exact hm _ _ _ (runK_mono hm _ _ ks _ h)
theorem runK_mono {σ : Type} {st : σ → Ex → Nat → σ} {L : σ → Prop} (hm : ∀ s x d, L (st s x d) → L s) (x : Ex) : ∀ (j : Nat) (l : List Ex) (s : σ), L (runK st x j l s) → L s
  | _, [], s, h => by simp only [runK] at h; exact h
  | j, k :: l, s, h => by
    simp only [runK] at h
    exact runE_mono hm k s (hm _ _ _ (runK_mono hm x (j + 1) l _ h))
end
theorem runG_mono {σ : Type} {st : σ → Ex → Nat → σ} {L : σ → Prop} (hm : ∀ s x d, L (st s x d) → L s) : ∀ (G : List Fm) (s : σ), L (runG st G s) → L s
  | [], s, h => h
  | f :: G, s, h => by
    have e : runG st (f :: G) s = rsF st f (runG st G s) := rfl
    rw [e] at h
    exact runG_mono hm G s (hm _ _ _ (runK_mono hm _ _ _ _ h))
/-- What is told next stays within what is told in the end. -/
theorem next_mono {σ : Type} {st : σ → Ex → Nat → σ} {L : σ → Prop} (hm : ∀ s x d, L (st s x d) → L s) {G : List Fm} {f : Fm} {s : σ} (h : L (runG st (G ++ [f]) s)) : L (st s f.x f.d) := by
  rw [runG_snoc] at h
  exact runK_mono hm _ _ _ _ (runG_mono hm G _ h)
end Go.Proofs.YtmlcpihedmmlfaaGreatDoor
namespace Go.Proofs.YtmlcpihedmmlfaaGreatDoor
open Go.RowKit

def decN (k : Nat) : List UInt8 := if k < 10 then [UInt8.ofNat (48 + k)] else [UInt8.ofNat (48 + k / 10), UInt8.ofNat (48 + k % 10)]
theorem dec_small : ∀ k, k < 100 → Lib.decDigits k = decN k := by
  intro k h
  unfold decN Lib.decDigits
  by_cases h1 : k < 10
  · rw [dif_pos h1, if_pos h1]
  · rw [dif_neg h1, if_neg h1]
    unfold Lib.decDigits
    rw [dif_pos (by omega)]; rfl
def nmE : Ex → List UInt8
  | .mk _ nm md _ _ _ _ => if md ≠ [] then 32 :: (md ++ 46 :: nm) else if nm ≠ [] then 32 :: nm else []
def tailE : Ex → List UInt8
  | .mk op _ _ nu ys _ _ => if op = 1 then 32 :: nu else if op = 2 then 32 :: (if ys = true then [116, 114, 117, 101] else [102, 97, 108, 115, 101]) else []
/-- What an expression's dump begins with, ahead of its kids. -/
def openE : Ex → List UInt8
  | .mk op nm md nu ys ks ps => 91 :: decN op ++ nmE (.mk op nm md nu ys ks ps) ++ tailE (.mk op nm md nu ys ks ps)
/-- What is asked of an expression's parts. -/
def smallE : Ex → Prop
  | .mk op nm md nu _ _ _ => op < 100 ∧ nm.length ≤ 1000000 ∧ md.length ≤ 1000000 ∧ nu.length ≤ 1000000

set_option maxRecDepth 100000 in
set_option maxHeartbeats 16000000 in
theorem aOpen_c (F : Nat → Prop) (x : Ex) (g o : Nat) (w : World) (hx : PAtE F w g o x) (hs : smallE x) :
    Calls Tryz.prog 55 #[.pointer (some ⟨g, o, none⟩)] w (StrGb (openE x) w) := by
  cases x with
  | mk op nm md nu ys ks ps =>
    obtain ⟨hF, hgl, q, hq, hc, he⟩ := hx
    obtain ⟨s1, s2, s3, s4⟩ := hs
    simp only [EAt] at he
    obtain ⟨s, pw, nw, cw, pk, ck, rows, rfl, hnum, -⟩ := he
    have c0 := hc 0 _ rfl
    have c1 := hc 1 _ rfl
    have c2 := hc 2 _ rfl
    have c3 := hc 3 _ rfl
    have c4 := hc 4 _ rfl
    have c5 := hc 5 _ rfl
    rw [Nat.add_zero] at c0
    obtain ⟨y, hy⟩ : ∃ y : ByteArray, (⟨nm.toArray⟩ : ByteArray) = y := ⟨_, rfl⟩
    obtain ⟨z, hz⟩ : ∃ z : ByteArray, (⟨md.toArray⟩ : ByteArray) = z := ⟨_, rfl⟩
    unfold strV at c1 c2
    rw [hy] at c1
    rw [hz] at c2
    have hyl : y.data.toList = nm := by rw [← hy]
    have hzl : z.data.toList = md := by rw [← hz]
    have hys := sz_list hyl
    have hzs := sz_list hzl
    have y1 : y.size ≤ 1000000 := by omega
    have z1 : z.size ≤ 1000000 := by omega
    have HIT := Lib.hid (Tryz.strconv_Itoa_small op s1)
    have HFB := Lib.hid (Tryz.strconv_FormatBool ys)
    have HNUM := Lib.hid hnum
    have HYL := Lib.hid hyl; have HZL := Lib.hid hzl
    have HD : Hid ((⟨(Lib.decDigits op).toArray⟩ : ByteArray).data.toList = decN op) := Lib.hid (by rw [← dec_small op s1])
    have hds : (⟨(Lib.decDigits op).toArray⟩ : ByteArray).size ≤ 2 := by
      rw [sz_list HD.out]; unfold decN; split <;> simp
    generalize (⟨(Lib.decDigits op).toArray⟩ : ByteArray) = dg at *
    clear hc hq hF hnum hy hz hyl hzl hys hzs
    have hze : z.toList.isEmpty = decide (md = []) := by
      rw [toList_data, HZL.out]; cases md <;> simp
    have hye : y.toList.isEmpty = decide (nm = []) := by
      rw [toList_data, HYL.out]; cases nm <;> simp
    go_enter Tryz.func55, Tryz.ntmps55
    go_wp2_with fail
    refine (HIT.out _).mono ?_
    rintro e w1 ⟨rfl, rfl⟩
    by_cases hm : md = []
    · have f1 : decide (md = []) = true := decide_eq_true hm
      by_cases hn0 : nm = []
      · have f2 : decide (nm = []) = true := decide_eq_true hn0
        have HMD := Lib.hid hm; have HNM := Lib.hid hn0
        clear hm hn0
        by_cases h1 : op = 1
        · have e1 : ((op : Int) == 1) = true := by rw [h1]; rfl
          have e1' : (op == 1) = true := by rw [h1]; rfl
          have hn := HNUM.out
          unfold NumAt at hn
          rw [if_pos h1] at hn
          have HST := Lib.hid (fun W (h : w1.grownBy W none) => Zd.String_c _ _ W (hn.1.kept h) (Zd.parseV_lim nu))
          have HTX : Hid (Zd.txt (Zd.parseV nu) = .string ⟨nu.toArray⟩) := Lib.hid (by unfold Zd.txt; rw [Zd.txtL_parse hn.2.1])
          rw [HTX.out] at HST
          obtain ⟨v, hv⟩ : ∃ v : ByteArray, (⟨nu.toArray⟩ : ByteArray) = v := ⟨_, rfl⟩
          have HVL : Hid (v.data.toList = nu) := Lib.hid (by rw [← hv])
          have v1 : v.size ≤ 1000000 := by rw [sz_list HVL.out]; exact s4
          rw [hv] at HST
          have H1 := Lib.hid h1
          clear hn hv HTX h1
          go_wp2_with fail
          (try (go_quiet (fail); go_wp2_with fail))
          refine (HST.out _ (by repeat (first | with_reducible exact gb_refl _ _ | with_reducible refine gb_drewN ?_ _))).mono ?_
          rintro e w2 ⟨rfl, hg2⟩
          have HG2 : Hid (w1.grownBy w2 none) := Lib.hid (gb_trans (by repeat (first | with_reducible exact gb_refl _ _ | with_reducible refine gb_drewN ?_ _)) hg2)
          clear hg2
          go_wp2_with fail
          go_ret
          exact ⟨⟨_, rfl, by simp [app_list, openE, nmE, tailE, HD.out, HYL.out, HZL.out, HVL.out, H1.out, HMD.out, HNM.out]⟩, by repeat (first | with_reducible exact HG2.out | with_reducible refine gb_drewN ?_ _)⟩
        · have e1 : ((op : Int) == 1) = false := beq_eq_false_iff_ne.2 (by omega)
          have e1' : (op == 1) = false := beq_eq_false_iff_ne.2 h1
          have H1 := Lib.hid h1
          by_cases h2 : op = 2
          · have e2 : ((op : Int) == 2) = true := by rw [h2]; rfl
            have e2' : (op == 2) = true := by rw [h2]; rfl
            have HVL : Hid ((⟨(Lib.formatBool ys).toArray⟩ : ByteArray).data.toList = if ys = true then [116, 114, 117, 101] else [102, 97, 108, 115, 101]) := Lib.hid (by cases ys <;> rfl)
            obtain ⟨v, hv⟩ : ∃ v : ByteArray, (⟨(Lib.formatBool ys).toArray⟩ : ByteArray) = v := ⟨_, rfl⟩
            rw [hv] at HVL HFB
            have v1 : v.size ≤ 1000000 := by rw [sz_list HVL.out]; split <;> simp
            have H2 := Lib.hid h2
            clear hv h1 h2
            go_wp2_with fail
            (try (go_quiet (fail); go_wp2_with fail))
            refine (HFB.out _).mono ?_
            rintro e w2 ⟨rfl, rfl⟩
            go_wp2_with fail
            go_ret
            exact ⟨⟨_, rfl, by simp [app_list, openE, nmE, tailE, HD.out, HYL.out, HZL.out, HVL.out, H2.out, HMD.out, HNM.out]⟩, by repeat (first | with_reducible exact gb_refl _ _ | with_reducible refine gb_drewN ?_ _)⟩
          · have e2 : ((op : Int) == 2) = false := beq_eq_false_iff_ne.2 (by omega)
            have e2' : (op == 2) = false := beq_eq_false_iff_ne.2 h2
            have H2 := Lib.hid h2
            clear h1 h2
            go_wp2_with fail
            (try (go_quiet (fail); go_wp2_with fail))
            go_ret
            exact ⟨⟨_, rfl, by simp [app_list, openE, nmE, tailE, HD.out, HYL.out, HZL.out, H1.out, H2.out, HMD.out, HNM.out]⟩, by repeat (first | with_reducible exact gb_refl _ _ | with_reducible refine gb_drewN ?_ _)⟩
      · have f2 : decide (nm = []) = false := decide_eq_false hn0
        have HMD := Lib.hid hm; have HNM := Lib.hid hn0
        clear hm hn0
        by_cases h1 : op = 1
        · have e1 : ((op : Int) == 1) = true := by rw [h1]; rfl
          have e1' : (op == 1) = true := by rw [h1]; rfl
          have hn := HNUM.out
          unfold NumAt at hn
          rw [if_pos h1] at hn
          have HST := Lib.hid (fun W (h : w1.grownBy W none) => Zd.String_c _ _ W (hn.1.kept h) (Zd.parseV_lim nu))
          have HTX : Hid (Zd.txt (Zd.parseV nu) = .string ⟨nu.toArray⟩) := Lib.hid (by unfold Zd.txt; rw [Zd.txtL_parse hn.2.1])
          rw [HTX.out] at HST
          obtain ⟨v, hv⟩ : ∃ v : ByteArray, (⟨nu.toArray⟩ : ByteArray) = v := ⟨_, rfl⟩
          have HVL : Hid (v.data.toList = nu) := Lib.hid (by rw [← hv])
          have v1 : v.size ≤ 1000000 := by rw [sz_list HVL.out]; exact s4
          rw [hv] at HST
          have H1 := Lib.hid h1
          clear hn hv HTX h1
          go_wp2_with fail
          (try (go_quiet (fail); go_wp2_with fail))
          refine (HST.out _ (by repeat (first | with_reducible exact gb_refl _ _ | with_reducible refine gb_drewN ?_ _))).mono ?_
          rintro e w2 ⟨rfl, hg2⟩
          have HG2 : Hid (w1.grownBy w2 none) := Lib.hid (gb_trans (by repeat (first | with_reducible exact gb_refl _ _ | with_reducible refine gb_drewN ?_ _)) hg2)
          clear hg2
          go_wp2_with fail
          go_ret
          exact ⟨⟨_, rfl, by simp [app_list, openE, nmE, tailE, HD.out, HYL.out, HZL.out, HVL.out, H1.out, HMD.out, HNM.out]⟩, by repeat (first | with_reducible exact HG2.out | with_reducible refine gb_drewN ?_ _)⟩
        · have e1 : ((op : Int) == 1) = false := beq_eq_false_iff_ne.2 (by omega)
          have e1' : (op == 1) = false := beq_eq_false_iff_ne.2 h1
          have H1 := Lib.hid h1
          by_cases h2 : op = 2
          · have e2 : ((op : Int) == 2) = true := by rw [h2]; rfl
            have e2' : (op == 2) = true := by rw [h2]; rfl
            have HVL : Hid ((⟨(Lib.formatBool ys).toArray⟩ : ByteArray).data.toList = if ys = true then [116, 114, 117, 101] else [102, 97, 108, 115, 101]) := Lib.hid (by cases ys <;> rfl)
            obtain ⟨v, hv⟩ : ∃ v : ByteArray, (⟨(Lib.formatBool ys).toArray⟩ : ByteArray) = v := ⟨_, rfl⟩
            rw [hv] at HVL HFB
            have v1 : v.size ≤ 1000000 := by rw [sz_list HVL.out]; split <;> simp
            have H2 := Lib.hid h2
            clear hv h1 h2
            go_wp2_with fail
            (try (go_quiet (fail); go_wp2_with fail))
            refine (HFB.out _).mono ?_
            rintro e w2 ⟨rfl, rfl⟩
            go_wp2_with fail
            go_ret
            exact ⟨⟨_, rfl, by simp [app_list, openE, nmE, tailE, HD.out, HYL.out, HZL.out, HVL.out, H2.out, HMD.out, HNM.out]⟩, by repeat (first | with_reducible exact gb_refl _ _ | with_reducible refine gb_drewN ?_ _)⟩
          · have e2 : ((op : Int) == 2) = false := beq_eq_false_iff_ne.2 (by omega)
            have e2' : (op == 2) = false := beq_eq_false_iff_ne.2 h2
            have H2 := Lib.hid h2
            clear h1 h2
            go_wp2_with fail
            (try (go_quiet (fail); go_wp2_with fail))
            go_ret
            exact ⟨⟨_, rfl, by simp [app_list, openE, nmE, tailE, HD.out, HYL.out, HZL.out, H1.out, H2.out, HMD.out, HNM.out]⟩, by repeat (first | with_reducible exact gb_refl _ _ | with_reducible refine gb_drewN ?_ _)⟩
    · have f1 : decide (md = []) = false := decide_eq_false hm
      have HMD := Lib.hid hm
      clear hm
      by_cases h1 : op = 1
      · have e1 : ((op : Int) == 1) = true := by rw [h1]; rfl
        have e1' : (op == 1) = true := by rw [h1]; rfl
        have hn := HNUM.out
        unfold NumAt at hn
        rw [if_pos h1] at hn
        have HST := Lib.hid (fun W (h : w1.grownBy W none) => Zd.String_c _ _ W (hn.1.kept h) (Zd.parseV_lim nu))
        have HTX : Hid (Zd.txt (Zd.parseV nu) = .string ⟨nu.toArray⟩) := Lib.hid (by unfold Zd.txt; rw [Zd.txtL_parse hn.2.1])
        rw [HTX.out] at HST
        obtain ⟨v, hv⟩ : ∃ v : ByteArray, (⟨nu.toArray⟩ : ByteArray) = v := ⟨_, rfl⟩
        have HVL : Hid (v.data.toList = nu) := Lib.hid (by rw [← hv])
        have v1 : v.size ≤ 1000000 := by rw [sz_list HVL.out]; exact s4
        rw [hv] at HST
        have H1 := Lib.hid h1
        clear hn hv HTX h1
        go_wp2_with fail
        (try (go_quiet (fail); go_wp2_with fail))
        refine (HST.out _ (by repeat (first | with_reducible exact gb_refl _ _ | with_reducible refine gb_drewN ?_ _))).mono ?_
        rintro e w2 ⟨rfl, hg2⟩
        have HG2 : Hid (w1.grownBy w2 none) := Lib.hid (gb_trans (by repeat (first | with_reducible exact gb_refl _ _ | with_reducible refine gb_drewN ?_ _)) hg2)
        clear hg2
        go_wp2_with fail
        go_ret
        exact ⟨⟨_, rfl, by simp [app_list, openE, nmE, tailE, HD.out, HYL.out, HZL.out, HVL.out, H1.out, HMD.out]⟩, by repeat (first | with_reducible exact HG2.out | with_reducible refine gb_drewN ?_ _)⟩
      · have e1 : ((op : Int) == 1) = false := beq_eq_false_iff_ne.2 (by omega)
        have e1' : (op == 1) = false := beq_eq_false_iff_ne.2 h1
        have H1 := Lib.hid h1
        by_cases h2 : op = 2
        · have e2 : ((op : Int) == 2) = true := by rw [h2]; rfl
          have e2' : (op == 2) = true := by rw [h2]; rfl
          have HVL : Hid ((⟨(Lib.formatBool ys).toArray⟩ : ByteArray).data.toList = if ys = true then [116, 114, 117, 101] else [102, 97, 108, 115, 101]) := Lib.hid (by cases ys <;> rfl)
          obtain ⟨v, hv⟩ : ∃ v : ByteArray, (⟨(Lib.formatBool ys).toArray⟩ : ByteArray) = v := ⟨_, rfl⟩
          rw [hv] at HVL HFB
          have v1 : v.size ≤ 1000000 := by rw [sz_list HVL.out]; split <;> simp
          have H2 := Lib.hid h2
          clear hv h1 h2
          go_wp2_with fail
          (try (go_quiet (fail); go_wp2_with fail))
          refine (HFB.out _).mono ?_
          rintro e w2 ⟨rfl, rfl⟩
          go_wp2_with fail
          go_ret
          exact ⟨⟨_, rfl, by simp [app_list, openE, nmE, tailE, HD.out, HYL.out, HZL.out, HVL.out, H2.out, HMD.out]⟩, by repeat (first | with_reducible exact gb_refl _ _ | with_reducible refine gb_drewN ?_ _)⟩
        · have e2 : ((op : Int) == 2) = false := beq_eq_false_iff_ne.2 (by omega)
          have e2' : (op == 2) = false := beq_eq_false_iff_ne.2 h2
          have H2 := Lib.hid h2
          clear h1 h2
          go_wp2_with fail
          (try (go_quiet (fail); go_wp2_with fail))
          go_ret
          exact ⟨⟨_, rfl, by simp [app_list, openE, nmE, tailE, HD.out, HYL.out, HZL.out, H1.out, H2.out, HMD.out]⟩, by repeat (first | with_reducible exact gb_refl _ _ | with_reducible refine gb_drewN ?_ _)⟩
end Go.Proofs.YtmlcpihedmmlfaaGreatDoor
namespace Go.Proofs.YtmlcpihedmmlfaaGreatDoor
open Go.RowKit

mutual
/-- An expression's dump. -/
def dmpE : Ex → List UInt8
  | .mk op nm md nu ys ks ps => openE (.mk op nm md nu ys ks ps) ++ dmpK ks ++ [93]
def dmpK : List Ex → List UInt8
  | [] => []
  | k :: l => 32 :: dmpE k ++ dmpK l
end
def stD (s : List UInt8) (x : Ex) (d : Nat) : List UInt8 := s ++ ((if d = 0 then openE x else []) ++ (if d = (kidsE x).length then [93] else [32]))
mutual
theorem runE_D : ∀ (x : Ex) (s : List UInt8), runE stD x s = s ++ dmpE x
  | .mk op nm md nu ys ks ps, s => by
    simp only [runE, dmpE]
    have h := runK_D (.mk op nm md nu ys ks ps) 0 ks (s ++ openE (.mk op nm md nu ys ks ps)) (by simp [kidsE])
    have e : stD s (.mk op nm md nu ys ks ps) 0 = s ++ openE (.mk op nm md nu ys ks ps) ++ (if ks = [] then [93] else [32]) := by
      unfold stD; rw [if_pos rfl]
      show s ++ (_ ++ (if 0 = ks.length then [93] else [32])) = _
      rw [List.append_assoc]
      by_cases hk : ks = []
      · subst hk; rfl
      · rw [if_neg hk, if_neg (by intro h0; exact hk (List.eq_nil_of_length_eq_zero h0.symm))]
    rw [e, h]; simp
theorem runK_D (x : Ex) : ∀ (j : Nat) (l : List Ex) (s : List UInt8), j + l.length = (kidsE x).length → runK stD x j l (s ++ (if l = [] then [93] else [32])) = s ++ dmpK l ++ [93]
  | j, [], s, h => by simp [runK, dmpK]
  | j, k :: l, s, h => by
    simp only [runK, dmpK]
    rw [if_neg (by simp), runE_D k]
    have h1 : j + 1 + l.length = (kidsE x).length := by simp at h; omega
    have e : stD (s ++ [32] ++ dmpE k) x (j + 1) = (s ++ 32 :: dmpE k) ++ (if l = [] then [93] else [32]) := by
      unfold stD
      rw [if_neg (by omega)]
      by_cases hl : l = []
      · subst hl
        rw [if_pos rfl, if_pos (by simpa using h1)]; simp
      · have : 0 < l.length := List.length_pos_iff.2 hl
        rw [if_neg hl, if_neg (by omega)]; simp
    rw [e, runK_D x (j + 1) l _ h1]; simp
end
mutual
/-- All parts of an expression are small. -/
def allS : Ex → Prop
  | .mk op nm md nu ys ks ps => smallE (.mk op nm md nu ys ks ps) ∧ allSs ks
def allSs : List Ex → Prop
  | [] => True
  | k :: l => allS k ∧ allSs l
end
theorem allSs_mem : ∀ {l : List Ex} {k : Ex}, allSs l → k ∈ l → allS k
  | [], k, _, h => by cases h
  | y :: l, k, hs, h => by
    simp only [allSs] at hs
    rcases List.mem_cons.1 h with h | h
    · subst h; exact hs.1
    · exact allSs_mem hs.2 h
theorem allS_kid {x k : Ex} (h : allS x) (hk : k ∈ kidsE x) : allS k := by
  cases x with
  | mk op nm md nu ys ks ps => simp only [allS] at h; exact allSs_mem h.2 hk
theorem allS_small {x : Ex} (h : allS x) : smallE x := by
  cases x with
  | mk op nm md nu ys ks ps => simp only [allS] at h; exact h.1

def PD (B b : Nat) (s : List UInt8) (w : World) : Prop := Lib.IsBuilder 101 5 B b (Lib.byteCells s) w ∧ B ≤ w.heap.size
def LD (s : List UInt8) : Prop := s.length ≤ 1000000

theorem PD.gb {B b : Nat} {s : List UInt8} {w w' : World} (h : PD B b s w) (hg : w.grownBy w' none) : PD B b s w' := ⟨bld_kept h.1 hg, Nat.le_trans h.2 hg.size⟩

set_option maxRecDepth 100000 in
set_option maxHeartbeats 16000000 in
theorem dump1_c (F : Nat → Prop) (B b : Nat) (hF : ∀ k, F k → k < B) (s : List UInt8) (f : Fm) (w : World) (hp : PD B b s w) (hx : PAtE F w f.g f.o f.x) (hd : f.d ≤ (kidsE f.x).length) (hq : allS f.x) (hl : LD (stD s f.x f.d)) :
    Calls Tryz.prog 54 #[.pointer (some ⟨f.g, f.o, none⟩), .int .i64 (f.d : Int), .pointer (some ⟨b, 0, none⟩)] w (fun e w' => e = .returned (.tuple #[]) ∧ PD B b (stD s f.x f.d) w' ∧ Below B w w' ∧ OKept b w w') := by
  have HOP := Lib.hid (aOpen_c F f.x f.g f.o w hx (allS_small hq))
  obtain ⟨pk, ck, c6, -⟩ := hx.kids
  have hgl := hx.2.1
  have HGB : Hid (f.g < B) := Lib.hid (hF _ hx.1)
  have HP := Lib.hid hp; have HL := Lib.hid hl
  obtain ⟨fg, hfg⟩ : ∃ fg, f.g = fg := ⟨_, rfl⟩
  obtain ⟨fo, hfo⟩ : ∃ fo, f.o = fo := ⟨_, rfl⟩
  obtain ⟨fd, hfd⟩ : ∃ fd, f.d = fd := ⟨_, rfl⟩
  obtain ⟨kn, hkn⟩ : ∃ kn, (kidsE f.x).length = kn := ⟨_, rfl⟩
  obtain ⟨x, hxx⟩ : ∃ x, f.x = x := ⟨_, rfl⟩
  rw [hfg, hfo] at HOP c6
  rw [hfg] at hgl HGB
  rw [hkn] at c6 hd
  rw [hfd] at HL hd
  rw [hfg, hfo, hfd]
  rw [hxx] at HOP HL hkn ⊢
  have HC6 := Lib.hid c6
  have HGL := Lib.hid hgl
  have HBW : Hid (B ≤ w.heap.size) := Lib.hid hp.2
  have HE : Hid (stD s x fd = s ++ ((if fd = 0 then openE x else []) ++ (if fd = kn then [93] else [32]))) := Lib.hid (by unfold stD; rw [hkn])
  clear hx hq hp hl hF hfg hfo hfd hkn hxx
  have HLL : Hid (s.length + (if fd = 0 then openE x else []).length + 1 ≤ 1000000) := Lib.hid (by
    have h := HL.out
    rw [HE.out] at h
    unfold LD at h
    simp only [List.length_append] at h
    have h3 : (if fd = kn then [93] else [32] : List UInt8).length = 1 := by split <;> rfl
    omega)
  -- the last byte told
  have HLAST : ∀ (t : List UInt8) (W : World), Hid (PD B b t W) → Hid (t.length + 1 ≤ 1000000) → ∀ (z : UInt8), Hid (Calls Tryz.prog 36 #[.pointer (some ⟨b, 0, none⟩), .string ⟨#[z]⟩] W (fun e w' => e = .returned (.tuple #[.int .i64 1, .nilIface]) ∧ PD B b (t ++ [z]) w' ∧ Below B W w' ∧ OKept b W w')) := fun t W h1 h2 z => Lib.hid ((WriteString_c B b _ ⟨#[z]⟩ W h1.out.1 (by rw [Lib.byteCells_length]; show t.length + 1 ≤ _; have := h2.out; omega) h1.out.2).mono (by
    rintro e w' ⟨rfl, ⟨h3, h4⟩, h5⟩
    refine ⟨rfl, ⟨.inr (by rw [Lib.byteCells_append]; exact h3), Nat.le_trans h1.out.2 h4.size⟩, h4, h5⟩))
  go_enter Tryz.func54, Tryz.ntmps54
  by_cases h0 : fd = 0
  · have e1 : ((fd : Int) == 0) = true := by rw [h0]; rfl
    have e1' : (fd == 0) = true := by rw [h0]; rfl
    have HLL2 : Hid (s.length + (openE x).length + 1 ≤ 1000000) := Lib.hid (by have h := HLL.out; rw [if_pos h0] at h; exact h)
    have HE2 : Hid (stD s x fd = s ++ openE x ++ (if fd = kn then [93] else [32])) := Lib.hid (by rw [HE.out, if_pos h0, List.append_assoc])
    clear h0 HE HLL
    go_wp2_with fail
    refine HOP.out.mono ?_
    rintro e w1 ⟨⟨y, rfl, hy⟩, hg1⟩
    have HY := Lib.hid hy; have HG1 := Lib.hid hg1
    have hys := sz_list hy
    have HYS : Hid (y.size ≤ 1000000) := Lib.hid (by rw [hys]; have := HLL2.out; omega)
    have HP1 := Lib.hid (HP.out.gb hg1)
    have HWS1 := Lib.hid (WriteString_c B b _ y w1 HP1.out.1 (by rw [Lib.byteCells_length, hys]; have := HLL2.out; omega) HP1.out.2)
    have c6 := hg1.cell c6 (by simp)
    have hgl := Nat.lt_of_lt_of_le hgl hg1.size
    clear hy hg1 HOP hys
    go_wp2_with fail
    refine HWS1.out.mono ?_
    rintro e w2 ⟨rfl, ⟨hb2, hbe2⟩, hok2⟩
    have HP2 : Hid (PD B b (s ++ openE x) w2) := Lib.hid ⟨.inr (by rw [← HY.out, Lib.byteCells_append]; exact hb2), Nat.le_trans HP1.out.2 hbe2.size⟩
    have HBE2 := Lib.hid (Below.trans2 (Below.gb HG1.out HBW.out) hbe2)
    have HOK2 := Lib.hid (OKept.trans (OKept.none HG1.out) hok2)
    have c6 := (World.cell?_of_block (a := ⟨fg, fo + 6, none⟩) (hbe2.block fg HGB.out)).trans c6
    have hgl := Nat.lt_of_lt_of_le hgl hbe2.size
    have HLA := fun z => HLAST _ _ HP2 (Lib.hid (by rw [List.length_append]; exact HLL2.out)) z
    clear hb2 hbe2 hok2 HWS1 HLAST
    by_cases hk : fd = kn
    · have e2 : ((fd : Int) == (kn : Int)) = true := beq_iff_eq.2 (by omega)
      have e2' : (fd == kn) = true := beq_iff_eq.2 hk
      have HK := Lib.hid hk
      have HLZ := HLA 93
      clear hk HLA
      go_wp2_with fail
      refine HLZ.out.mono ?_
      rintro e w3 ⟨rfl, hp3, hb3, ho3⟩
      go_wp2_with fail
      refine bodyPost_end (results_none rfl _ _ _) rfl ?_
      exact ⟨rfl, by rw [HE2.out, if_pos HK.out]; exact hp3, Below.trans2 HBE2.out hb3, OKept.trans HOK2.out ho3⟩
    · have e2 : ((fd : Int) == (kn : Int)) = false := beq_eq_false_iff_ne.2 (by omega)
      have e2' : (fd == kn) = false := beq_eq_false_iff_ne.2 hk
      have HK := Lib.hid hk
      have HLZ := HLA 32
      clear hk HLA
      go_wp2_with fail
      refine HLZ.out.mono ?_
      rintro e w3 ⟨rfl, hp3, hb3, ho3⟩
      go_wp2_with fail
      refine bodyPost_end (results_none rfl _ _ _) rfl ?_
      exact ⟨rfl, by rw [HE2.out, if_neg HK.out]; exact hp3, Below.trans2 HBE2.out hb3, OKept.trans HOK2.out ho3⟩
  · have e1 : ((fd : Int) == 0) = false := beq_eq_false_iff_ne.2 (by omega)
    have e1' : (fd == 0) = false := beq_eq_false_iff_ne.2 h0
    have HLL2 : Hid (s.length + 1 ≤ 1000000) := Lib.hid (by have h := HLL.out; omega)
    have HE2 : Hid (stD s x fd = s ++ (if fd = kn then [93] else [32])) := Lib.hid (by rw [HE.out, if_neg h0]; rfl)
    have HLA := fun z => HLAST _ _ HP HLL2 z
    clear h0 HE HLL HOP HLAST
    by_cases hk : fd = kn
    · have e2 : ((fd : Int) == (kn : Int)) = true := beq_iff_eq.2 (by omega)
      have e2' : (fd == kn) = true := beq_iff_eq.2 hk
      have HK := Lib.hid hk
      have HLZ := HLA 93
      clear hk HLA
      go_wp2_with fail
      refine HLZ.out.mono ?_
      rintro e w3 ⟨rfl, hp3, hb3, ho3⟩
      go_wp2_with fail
      refine bodyPost_end (results_none rfl _ _ _) rfl ?_
      exact ⟨rfl, by rw [HE2.out, if_pos HK.out]; exact hp3, hb3, ho3⟩
    · have e2 : ((fd : Int) == (kn : Int)) = false := beq_eq_false_iff_ne.2 (by omega)
      have e2' : (fd == kn) = false := beq_eq_false_iff_ne.2 hk
      have HK := Lib.hid hk
      have HLZ := HLA 32
      clear hk HLA
      go_wp2_with fail
      refine HLZ.out.mono ?_
      rintro e w3 ⟨rfl, hp3, hb3, ho3⟩
      go_wp2_with fail
      refine bodyPost_end (results_none rfl _ _ _) rfl ?_
      exact ⟨rfl, by rw [HE2.out, if_neg HK.out]; exact hp3, hb3, ho3⟩
end Go.Proofs.YtmlcpihedmmlfaaGreatDoor
