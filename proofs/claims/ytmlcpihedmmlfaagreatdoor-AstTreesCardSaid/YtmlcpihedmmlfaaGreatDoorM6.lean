/- What a node may be: eachBelow, rightNode, rightNodes. -/
import Derived.Test.YtmlcpihedmmlfaaGreatDoorM5
import Derived.Test.YtmlcpihedmmlfaaGreatDoorM3
import Derived.Test.YtmlcpihedmmlfaaGreatDoorM4
set_option linter.unusedVariables false
set_option linter.unusedSimpArgs false
namespace Go.Proofs.YtmlcpihedmmlfaaGreatDoor
open Go.RowKit

def okB (n : Nat) (l : List Int) : Bool := l.all fun k => decide (0 ≤ k ∧ k < (n : Int))
theorem okB_true {n : Nat} {l : List Int} (h : ∀ k ∈ l, 0 ≤ k ∧ k < (n : Int)) : okB n l = true := by
  unfold okB; rw [List.all_eq_true]; exact fun k hk => decide_eq_true (h k hk)
theorem okB_false {n : Nat} {l : List Int} {j : Nat} {x : Int} (hx : l[j]? = some x) (h : ¬ (0 ≤ x ∧ x < (n : Int))) : okB n l = false := by
  unfold okB; rw [List.all_eq_false]; exact ⟨x, List.mem_of_getElem? hx, by simpa using h⟩
set_option maxRecDepth 100000 in
set_option maxHeartbeats 4000000 in
theorem eachBelow_c (n : Nat) (l : List Int) (p : Option Addr) (c : Nat) (w : World) (hn : n ≤ 1000000) (hl : l.length ≤ 1000000) (h : VAt w p (intsV l)) :
    Calls Tryz.prog 101 #[.int .i64 (n : Int), .slice p l.length c] w (ValPost (.bool (okB n l)) w) := by
  obtain ⟨m, hm⟩ : ∃ m, l.length = m := ⟨_, rfl⟩
  have HM := Lib.hid hm
  have HV := Lib.hid h
  rw [hm] at hl ⊢
  clear hm h
  go_enter Tryz.func101, Tryz.ntmps101
  go_wp2_with fail
  go_loopw [9] (fun v wr => ∃ k : Nat, k ≤ m ∧ v = .int .i64 k ∧ wr = w ∧ Hid (∀ (j : Nat) (x : Int), j < k → l[j]? = some x → 0 ≤ x ∧ x < (n : Int))) (fun v _ => m - (intOf v).toNat)
  case atStart => exact ⟨0, Nat.zero_le _, rfl, rfl, Lib.hid (fun j x h => by omega)⟩
  case round =>
    obtain ⟨k, hk, rfl, rfl, HK⟩ := hrel
    by_cases hlt : k < m
    · have d1 : decide ((k : Int) < (m : Int)) = true := decide_eq_true (by omega)
      have d1' : decide (k < m) = true := decide_eq_true hlt
      obtain ⟨x, hx⟩ : ∃ x, l[k]? = some x := ⟨l[k]'(by rw [HM.out]; exact hlt), List.getElem?_eq_getElem _⟩
      obtain ⟨g, off, rfl, hgl, c0⟩ := kid_at HV.out hx
      have HX := Lib.hid hx
      clear hx
      by_cases h0 : x < 0
      · have d2 : decide (x < 0) = true := decide_eq_true h0
        go_wp2_with fail
        go_ret
        exact ⟨by rw [okB_false HX.out (by omega)]; rfl, gb_refl _ _⟩
      · have d2 : decide (x < 0) = false := decide_eq_false h0
        by_cases h1 : (n : Int) ≤ x
        · have d3 : decide ((n : Int) ≤ x) = true := decide_eq_true h1
          go_wp2_with fail
          go_ret
          exact ⟨by rw [okB_false HX.out (by omega)]; rfl, gb_refl _ _⟩
        · have d3 : decide ((n : Int) ≤ x) = false := decide_eq_false h1
          go_wp2_with fail
          go_roundw
          case rel => exact ⟨k + 1, by omega, by go_num, by first | rfl | trivial, Lib.hid (fun j y hj hy => by
            by_cases e : j = k
            · subst e; rw [HX.out] at hy; cases hy; omega
            · exact HK.out j y (by omega) hy)⟩
          case measure => (simp [intOf] <;> omega)
    · obtain rfl : k = m := by omega
      go_wp2_with fail
      go_ret
      exact ⟨by rw [okB_true fun y hy => by
        obtain ⟨j, hj⟩ := List.getElem?_of_mem hy
        have := (List.getElem?_eq_some_iff.1 hj).1
        rw [HM.out] at this
        exact HK.out j y this hj]; rfl, gb_refl _ _⟩

set_option maxRecDepth 100000 in
set_option maxHeartbeats 8000000 in
theorem rightNode_c {m : Nat} (N : List Nd) (K : Nat → Option Addr × Nat) (hf : Forms m N) (hN : N.length ≤ 150000) (pt pn : Option Addr) (mt ct cn n : Nat) (hn : n < N.length) (w : World) (hw : NodesAt w pn N K) :
    Calls Tryz.prog 149 #[.agg #[.slice pt mt ct, .slice pn N.length cn], .int .i64 (n : Int)] w (ValPost (.bool true) w) := by
  obtain ⟨x, hx⟩ : ∃ x, N[n]? = some x := ⟨N[n], List.getElem?_eq_getElem _⟩
  obtain ⟨f1, f2, f3, f4, f5⟩ := hf.2.1 n x hx
  have hll : x.kids.length ≤ 150000 := by
    have h1 := sz_le hf hn
    have h2 := kids_len hf hx
    omega
  obtain ⟨g, off, rfl, hgl, c0, c1, c2⟩ := node_at hw hx
  have HKK := Lib.hid (hw.2 n x hx)
  have HE := Lib.hid (fun W p c h => eachBelow_c n x.kids p c W (by omega) (by omega) h)
  have HOK := Lib.hid (okB_true f5)
  obtain ⟨M, hM⟩ : ∃ M, N.length = M := ⟨_, rfl⟩
  rw [hM] at hn ⊢
  have d1 : decide (n < M) = true := decide_eq_true hn
  have d1' : decide ((n : Int) < (M : Int)) = true := decide_eq_true (by omega)
  have H3 := Lib.hid f3
  obtain ⟨kd, hkd⟩ : ∃ kd, x.kind = kd := ⟨_, rfl⟩
  obtain ⟨tk, htk⟩ : ∃ tk, x.tok = tk := ⟨_, rfl⟩
  obtain ⟨kl, hkl⟩ : ∃ kl, x.kids.length = kl := ⟨_, rfl⟩
  obtain ⟨kq, hkq⟩ : ∃ kq, (K n).1 = kq := ⟨_, rfl⟩
  obtain ⟨kc, hkc⟩ : ∃ kc, (K n).2 = kc := ⟨_, rfl⟩
  rw [hkd] at f1 f2 f4 H3 c0
  rw [htk] at f4 c1
  rw [hkl] at HE c2 hll
  rw [hkq] at HKK c2
  rw [hkc] at c2
  have H30 : Hid (kd = 19 → kl = 0) := Lib.hid (fun h => by rw [← hkl, (H3.out h).1]; rfl)
  clear f3 f5 hkd htk hkl hkq hkc hx hw hM H3
  go_enter Tryz.func149, Tryz.ntmps149
  by_cases h19 : kd = 19
  · subst h19
    have hk0 := H30.out rfl
    subst hk0
    go_wp2_with fail
    go_ret
    exact ⟨rfl, gb_alloc (World.grownBy_alloc w _ none) _⟩
  · have d2 : (kd == 19) = false := beq_eq_false_iff_ne.2 h19
    have d3 : decide (1 ≤ kd) = true := decide_eq_true f1
    have d4 : decide (kd < 19) = true := decide_eq_true (by omega)
    have ht := f4 h19
    subst ht
    go_wp2_with fail
    have hgA := gb_alloc (World.grownBy_alloc w (.cells #[.slice pt mt ct, .slice (some ⟨g, off, none⟩) M cn] 26) none) (.cells #[.int .i64 kd, .int .i64 (-1), .slice kq kl kc] 97)
    refine (HE.out _ kq kc (HKK.out.kept hgA)).mono ?_
    rintro e w1 ⟨rfl, hg⟩
    rw [HOK.out]
    have HG := Lib.hid (gb_trans hgA hg)
    clear hgA hg
    go_wp2_with fail
    go_ret
    exact ⟨rfl, HG.out⟩

theorem cells_tree {w : World} {b : Nat} {a c : Value} {T : TypeId} (h : w.heap[b]? = some (.cells #[a, c] T (0, 0))) : w.cell? ⟨b, 0, none⟩ = some a ∧ w.cell? ⟨b, 1, none⟩ = some c := ⟨(cells2 h).1, (cells2 h).2.1⟩

set_option maxRecDepth 100000 in
set_option maxHeartbeats 8000000 in
theorem rightNodes_c {m : Nat} (N : List Nd) (K : Nat → Option Addr × Nat) (hf : Forms m N) (hN : N.length ≤ 150000) (pt pn : Option Addr) (mt ct cn : Nat) (w : World) (hw : NodesAt w pn N K) :
    Calls Tryz.prog 116 #[.agg #[.slice pt mt ct, .slice pn N.length cn]] w (ValPost (.bool true) w) := by
  have HR := Lib.hid (fun n hn W h => rightNode_c N K hf hN pt pn mt ct cn n hn W h)
  have HW := Lib.hid hw
  obtain ⟨M, hM⟩ : ∃ M, N.length = M := ⟨_, rfl⟩
  rw [hM] at HR hN ⊢
  clear hM hw
  go_enter Tryz.func116, Tryz.ntmps116
  go_wp2_with fail
  have hA := heap_alloc_new w (.cells #[.slice pt mt ct, .slice pn M cn] 26)
  have hgA := World.grownBy_alloc w (.cells #[.slice pt mt ct, .slice pn M cn] 26) none
  generalize (w.alloc (.cells #[.slice pt mt ct, .slice pn M cn] 26)) = W at *
  obtain ⟨b, hb⟩ : ∃ b, w.heap.size = b := ⟨_, rfl⟩
  rw [hb] at hA ⊢
  have HA := Lib.hid hA; have HGA := Lib.hid hgA
  clear hA hgA hb
  go_loopw [7] (fun v wr => ∃ k : Nat, k ≤ M ∧ v = .int .i64 k ∧ Hid (W.grownBy wr none)) (fun v _ => M - (intOf v).toNat)
  case atStart => exact ⟨0, Nat.zero_le _, rfl, Lib.hid (gb_refl _ _)⟩
  case round =>
    obtain ⟨k, hk, rfl, HG⟩ := hrel
    by_cases hlt : k < M
    · have d1 : decide ((k : Int) < (M : Int)) = true := decide_eq_true (by omega)
      have d1' : decide (k < M) = true := decide_eq_true hlt
      obtain ⟨a0, a1⟩ := cells_tree (bx HG.out HA.out)
      go_wp2_with fail
      refine (HR.out k hlt wr (HW.out.kept (gb_trans HGA.out HG.out))).mono ?_
      rintro e w2 ⟨rfl, hg2⟩
      have HG2 := Lib.hid (gb_trans HG.out hg2)
      clear hg2 HG a0 a1
      go_wp2_with fail
      go_roundw
      case rel => exact ⟨k + 1, by omega, by go_num, HG2⟩
      case measure => (simp [intOf] <;> omega)
    · obtain rfl : k = M := by omega
      go_wp2_with fail
      go_ret
      exact ⟨rfl, gb_trans HGA.out HG.out⟩
end Go.Proofs.YtmlcpihedmmlfaaGreatDoor
namespace Go.Proofs.YtmlcpihedmmlfaaGreatDoor

mutual
/-- How many nodes a tree has. -/
def szR : Tr → Nat
  | .lf _ => 1
  | .nd _ l => szRs l + 1
def szRs : List Tr → Nat
  | [] => 0
  | t :: l => szR t + szRs l
end
/-- Where the roots of trees stand that begin at b. -/
def idxs : Nat → List Tr → List Int
  | _, [] => []
  | b, t :: l => ((b + szR t - 1 : Nat) : Int) :: idxs (b + szR t) l
mutual
/-- A tree's nodes from b on. -/
def post : Nat → Tr → List Nd
  | _, .lf i => [⟨19, (i : Int), []⟩]
  | b, .nd k l => posts b l ++ [⟨(k : Int), -1, idxs b l⟩]
def posts : Nat → List Tr → List Nd
  | _, [] => []
  | b, t :: l => post b t ++ posts (b + szR t) l
end

theorem szR_pos (t : Tr) : 1 ≤ szR t := by cases t <;> (unfold szR; omega)
theorem idxs_append (a c : List Tr) : ∀ b, idxs b (a ++ c) = idxs b a ++ idxs (b + szRs a) c := by
  induction a with
  | nil => intro b; simp [idxs, szRs]
  | cons t a ih =>
    intro b
    simp only [List.cons_append, idxs, szRs, ih]
    rw [show b + szR t + szRs a = b + (szR t + szRs a) by omega]
theorem posts_append (a c : List Tr) : ∀ b, posts b (a ++ c) = posts b a ++ posts (b + szRs a) c := by
  induction a with
  | nil => intro b; simp [posts, szRs]
  | cons t a ih =>
    intro b
    simp only [List.cons_append, posts, szRs, ih, List.append_assoc]
    rw [show b + szR t + szRs a = b + (szR t + szRs a) by omega]
mutual
theorem post_len : ∀ (t : Tr) (b : Nat), (post b t).length = szR t
  | .lf i, b => by simp [post, szR]
  | .nd k l, b => by simp [post, szR, posts_len l b]
theorem posts_len : ∀ (l : List Tr) (b : Nat), (posts b l).length = szRs l
  | [], b => by simp [posts, szRs]
  | t :: l, b => by simp [posts, szRs, post_len t b, posts_len l (b + szR t)]
end
theorem idxs_in : ∀ (l : List Tr) (b : Nat) (k : Int), k ∈ idxs b l → (b : Int) ≤ k ∧ k < ((b + szRs l : Nat) : Int)
  | [], b, k, h => by simp [idxs] at h
  | t :: l, b, k, h => by
    have hp := szR_pos t
    simp only [idxs, List.mem_cons] at h
    simp only [szRs]
    rcases h with rfl | h
    · omega
    · have := idxs_in l (b + szR t) k h
      omega
theorem idxs_len : ∀ (l : List Tr) (b : Nat), (idxs b l).length = l.length
  | [], b => rfl
  | t :: l, b => by simp [idxs, idxs_len l]

/-- What a reading leaves: k more of room than it takes. -/
def OutL (k : Nat) (N : List Nd) (s : St) (r : RT) (N' : List Nd) (vs : List Int) : Prop :=
  (r.2.e = 0 → N' = N ++ posts N.length r.1 ∧ vs = idxs N.length r.1 ∧ N'.length + 2 * s.i + k ≤ N.length + 2 * r.2.i) ∧ N'.length + 2 * s.i ≤ N.length + 2 * r.2.i
structure OutD (k : Nat) (N : List Nd) (s : St) (r : RT) (N' : List Nd) (vs : List Int) : Prop where
  out : OutL k N s r N' vs
  dead : r.2.e ≠ 0 → (-1 : Int) ∈ vs
/-- The same state; the same trees, where there is no fault. -/
def Eqv (a b : RT) : Prop := a.2 = b.2 ∧ (b.2.e = 0 → a.1 = b.1)
theorem Eqv.refl (a : RT) : Eqv a a := ⟨rfl, fun _ => rfl⟩

theorem OutL.nil (N : List Nd) (s : St) : OutL 0 N s ([], s) N [] := ⟨fun _ => ⟨by simp [posts], rfl, Nat.le_refl _⟩, Nat.le_refl _⟩
theorem OutL.app {k1 k2 : Nat} {N N1 N2 : List Nd} {s : St} {a b : RT} {v1 v2 : List Int} (h1 : OutL k1 N s a N1 v1) (h2 : OutL k2 N1 a.2 b N2 v2) (hd : a.2.e ≠ 0 → b.2.e ≠ 0) : OutL (k1 + k2) N s (a.1 ++ b.1, b.2) N2 (v1 ++ v2) := by
  refine ⟨fun e => ?_, ?_⟩
  · have ea : a.2.e = 0 := by
      rcases Nat.eq_zero_or_pos a.2.e with h | h
      · exact h
      · exact absurd e (hd (by omega))
    obtain ⟨e1, e2, e3⟩ := h1.1 ea
    obtain ⟨f1, f2, f3⟩ := h2.1 e
    have hl : N1.length = N.length + szRs a.1 := by rw [e1, List.length_append, posts_len]
    refine ⟨?_, ?_, ?_⟩
    · rw [f1, hl, posts_append, ← List.append_assoc, ← e1]
    · rw [f2, e2, hl, idxs_append]
    · show N2.length + 2 * s.i + (k1 + k2) ≤ N.length + 2 * b.2.i; omega
  · have := h1.2; have := h2.2
    show N2.length + 2 * s.i ≤ N.length + 2 * b.2.i; omega
theorem OutD.app {k1 k2 : Nat} {N N1 N2 : List Nd} {s : St} {a b : RT} {v1 v2 : List Int} (h1 : OutL k1 N s a N1 v1) (h2 : OutD k2 N1 a.2 b N2 v2) (hd : a.2.e ≠ 0 → b.2.e ≠ 0) : OutD (k1 + k2) N s (a.1 ++ b.1, b.2) N2 (v1 ++ v2) :=
  ⟨h1.app h2.out hd, fun e => List.mem_append_right _ (h2.dead e)⟩
theorem OutL.weak {k j : Nat} {N N' : List Nd} {s : St} {r : RT} {vs : List Int} (h : OutL k N s r N' vs) (hj : j ≤ k) : OutL j N s r N' vs :=
  ⟨fun e => ⟨(h.1 e).1, (h.1 e).2.1, by have := (h.1 e).2.2; omega⟩, h.2⟩
theorem OutD.weak {k j : Nat} {N N' : List Nd} {s : St} {r : RT} {vs : List Int} (h : OutD k N s r N' vs) (hj : j ≤ k) : OutD j N s r N' vs := ⟨h.out.weak hj, h.dead⟩
theorem OutL.eqv {k : Nat} {N N' : List Nd} {s : St} {a b : RT} {vs : List Int} (h : OutL k N s a N' vs) (he : Eqv a b) : OutL k N s b N' vs :=
  ⟨fun e => by rw [← he.1, ← he.2 e]; exact h.1 (by rw [he.1]; exact e), by rw [← he.1]; exact h.2⟩
theorem OutD.eqv {k : Nat} {N N' : List Nd} {s : St} {a b : RT} {vs : List Int} (h : OutD k N s a N' vs) (he : Eqv a b) : OutD k N s b N' vs :=
  ⟨h.out.eqv he, fun e => h.dead (by rw [he.1]; exact e)⟩

/-- A node of what was read. -/
theorem OutD.ok {k : Nat} {N N1 : List Nd} {s : St} {r : RT} {vs : List Int} (h : OutD k N s r N1 vs) (e : r.2.e = 0) : okB N1.length vs = true := by
  obtain ⟨e1, e2, -⟩ := h.out.1 e
  refine okB_true fun j hj => ?_
  rw [e2] at hj
  have := idxs_in _ _ _ hj
  rw [e1, List.length_append, posts_len]
  omega
theorem OutD.no {k : Nat} {N N1 : List Nd} {s : St} {r : RT} {vs : List Int} (h : OutD k N s r N1 vs) (e : r.2.e ≠ 0) : okB N1.length vs = false := by
  obtain ⟨j, hj⟩ := List.getElem?_of_mem (h.dead e)
  exact okB_false hj (by omega)
theorem OutD.node {k kind : Nat} {N N1 : List Nd} {s : St} {r : RT} {vs : List Int} (h : OutD (k + 1) N s r N1 vs) (e : r.2.e = 0) : OutD k N s ([.nd kind r.1], r.2) (N1 ++ [⟨(kind : Int), -1, vs⟩]) [(N1.length : Int)] := by
  obtain ⟨e1, e2, e3⟩ := h.out.1 e
  have hl : N1.length = N.length + szRs r.1 := by rw [e1, List.length_append, posts_len]
  refine ⟨⟨fun _ => ⟨?_, ?_, ?_⟩, ?_⟩, fun h => absurd e h⟩
  · simp only [posts, post, List.append_nil]; rw [← List.append_assoc, ← e1, e2]
  · simp only [idxs, szR]; rw [hl]; congr 1
  · rw [List.length_append]; show N1.length + 1 + 2 * s.i + k ≤ N.length + 2 * r.2.i; omega
  · rw [List.length_append]; show N1.length + 1 + 2 * s.i ≤ N.length + 2 * r.2.i; omega
theorem OutD.none {k kind : Nat} {N N1 : List Nd} {s : St} {r : RT} {vs : List Int} (h : OutD (k + 1) N s r N1 vs) (e : r.2.e ≠ 0) : OutD k N s ([.nd kind r.1], r.2) N1 [-1] :=
  ⟨⟨fun h => absurd h e, h.out.2⟩, fun _ => List.mem_singleton.2 rfl⟩
theorem OutD.leaf {T : List Tok} {N : List Nd} {s : St} (hk : (tokQ T s).kind ≠ 5) (he : s.e = 0) : OutD 1 N s (leafT T s) (N ++ [⟨19, (s.i : Int), []⟩]) [(N.length : Int)] := by
  have h1 := leaf_fits hk
  refine ⟨⟨fun _ => ⟨?_, ?_, ?_⟩, ?_⟩, fun h => absurd ?_ h⟩
  · simp [leafT, posts, post]
  · simp [leafT, idxs, szR]
  · rw [List.length_append]; show N.length + 1 + 2 * s.i + 1 ≤ N.length + 2 * (leafQ T s).2.i; omega
  · rw [List.length_append]; show N.length + 1 + 2 * s.i ≤ N.length + 2 * (leafQ T s).2.i; omega
  · show (leafQ T s).2.e = 0; unfold leafQ; split <;> exact he
theorem OutD.fail {T : List Tok} {N : List Nd} {s : St} {k m : Nat} (hm : m ≠ 0) (l : List Tr) : OutD k N s (l, failQ T m s) N [-1] :=
  ⟨⟨fun h => absurd h (fail_e T hm s), by show N.length + 2 * s.i ≤ N.length + 2 * (failQ T m s).i; rw [fail_i]; omega⟩, fun _ => List.mem_singleton.2 rfl⟩
end Go.Proofs.YtmlcpihedmmlfaaGreatDoor
namespace Go.Proofs.YtmlcpihedmmlfaaGreatDoor

structure Keep (s : St) (r : RT) : Prop where
  inn : r.2.inn = s.inn
  dead : s.e ≠ 0 → r.2 = s
theorem Keep.nil (s : St) : Keep s ([], s) := ⟨rfl, fun _ => rfl⟩
theorem Keep.app {s : St} {a b : RT} (h1 : Keep s a) (h2 : Keep a.2 b) {l : List Tr} : Keep s (l, b.2) := by
  refine ⟨h2.inn.trans h1.inn, fun e => ?_⟩
  have ha := h1.dead e
  show b.2 = s
  rw [h2.dead (by rw [ha]; exact e), ha]
theorem Keep.node {s : St} {a : RT} (h : Keep s a) {l : List Tr} : Keep s (l, a.2) := ⟨h.inn, h.dead⟩

section
variable (T : List Tok)
theorem fail_same {n : Nat} {s : St} (h : s.e ≠ 0) : failQ T n s = s := by unfold failQ; rw [if_neg h]
theorem fail_keep (n : Nat) (s : St) (l : List Tr) : Keep s (l, failQ T n s) := ⟨by show (failQ T n s).inn = s.inn; unfold failQ; split <;> rfl, fun h => fail_same T h⟩
theorem nest_same {D n : Nat} {s : St} (h : s.e ≠ 0) : nestQ T D n s = s := by unfold nestQ; split; exact fail_same T h; rfl
theorem nest_inn (D n : Nat) (s : St) : (nestQ T D n s).inn = s.inn := by unfold nestQ; split; exact (fail_keep T 23 s []).inn; rfl
theorem nest_keep {D n : Nat} {s : St} {r : RT} (h : Keep (nestQ T D n s) r) : Keep s r :=
  ⟨h.inn.trans (nest_inn T D n s), fun e => by have h1 := nest_same T (D := D) (n := n) e; rw [h.dead (by rw [h1]; exact e), h1]⟩
theorem leaf_keep {s : St} (h : s.e = 0) : Keep s (leafT T s) := ⟨by show (leafQ T s).2.inn = s.inn; unfold leafQ; split <;> rfl, fun e => absurd h e⟩
theorem must_keep (x : List UInt8) (s : St) : Keep s (mustT T x s) := by
  unfold mustT; split
  · rename_i h; exact leaf_keep T (is_kind h).2
  · exact fail_keep T 22 s []
theorem kind_keep (k : Nat) (s : St) : Keep s (kindT T k s) := by
  unfold kindT; split
  · rename_i h; exact leaf_keep T h.1
  · exact fail_keep T 22 s []
theorem row_keep {c : St → Bool} {sub : St → RT} (hc : ∀ s, c s = true → s.e = 0) (hs : ∀ s, Keep s (sub s)) {s : St} : ∀ f r, Keep s r → Keep s (rwT T c sub f r)
  | 0, r, h => h
  | f + 1, r, h => by
    unfold rwT
    split
    · rename_i hcc
      exact row_keep hc hs f _ ((h.app (leaf_keep T (hc _ hcc)) (l := [])).app (hs _))
    · exact h
theorem parts_keep {sub : St → RT} (hs : ∀ s, Keep s (sub s)) {s : St} : ∀ f k r, Keep s r → Keep s (partsT T sub f k r)
  | 0, k, r, h => h
  | f + 1, k, r, h => by
    unfold partsT
    split
    · rename_i hcc
      refine parts_keep hs f _ _ ?_
      refine (h.app (leaf_keep T (is_kind hcc).2) (l := [])).app ?_
      show Keep (leafT T r.2).2 _
      split
      · exact (fail_keep T 15 _ []).app (hs _)
      · exact hs _
    · exact h
structure NxK (nt : NxT) : Prop where
  expr : ∀ s, Keep s (nt.expr s)
  formula : ∀ s, Keep s (nt.formula s)
  nots : ∀ s, Keep s (nt.nots s)
  factor : ∀ s, Keep s (nt.factor s)
end

section
variable (T : List Tok) (D n : Nat) {nt : NxT} (h : NxK nt)
include h
theorem args_keep (s : St) : Keep s (argsT T nt s) := parts_keep T h.expr _ _ _ (h.expr s)
omit h in
theorem nameB_keep {s : St} {a : RT} (ha : Keep s a) : Keep s (nameBT T a) := by
  unfold nameBT; split
  · rename_i hc; exact (ha.app (leaf_keep T (is_kind hc).2) (l := [])).app (kind_keep T _ _)
  · exact ha
omit h in
theorem nameC_keep {s : St} {a : RT} (ha : Keep s a) : Keep s (nameCT T a) := ha.app (must_keep T _ _)
theorem nameD_keep {s : St} {a : RT} (ha : Keep s a) : Keep s (nameDT T nt a) := by
  unfold nameDT; split
  · exact ha
  · exact ha.app (args_keep T h _)
omit h in
theorem nameE_keep {s : St} {a : RT} (ha : Keep s a) : Keep s (nameET T a) := ha.app (must_keep T _ _)
theorem name_keep {s : St} (hk : s.e = 0) : Keep s (nameT T nt s) := by
  unfold nameT; split
  · exact (leaf_keep T hk).node
  · exact nameE_keep T (nameD_keep T h (nameC_keep T (nameB_keep T (leaf_keep T hk))))
theorem atom_keep (s : St) : Keep s (atomT T nt s) := by
  unfold atomT
  split
  · exact Keep.nil s
  rename_i he
  have he : s.e = 0 := by omega
  split
  · exact (leaf_keep T he).node
  split
  · exact (leaf_keep T he).node
  split
  · exact (leaf_keep T he).node
  split
  · exact ((leaf_keep T he).app (h.expr _) (l := [])).app (must_keep T _ _)
  split
  · exact name_keep T h he
  · exact fail_keep T 22 s []
omit h in
theorem sign_keep {sub : St → RT} (hs : ∀ s, Keep s (sub s)) {s : St} (hk : s.e = 0) : Keep s (signT T D n sub s) := by
  unfold signT
  simp only []
  split
  · exact (leaf_keep T hk).app (nest_keep T (Keep.nil _))
  · exact (leaf_keep T hk).app (nest_keep T (hs _))
theorem factor_keep (s : St) : Keep s (factorT T D n nt s) := by
  unfold factorT; split
  · rename_i hk; exact sign_keep T D n h.factor (is_kind hk).2
  · exact atom_keep T h s
theorem product_keep (s : St) : Keep s (productT T D n nt s) := row_keep T (fun _ hc => mul_e hc) (factor_keep T D n h) _ _ (factor_keep T D n h s)
theorem sum_keep (s : St) : Keep s (sumT T D n nt s) := row_keep T (fun _ hc => add_e hc) (product_keep T D n h) _ _ (product_keep T D n h s)
theorem not_keep (s : St) : Keep s (notT T D n nt s) := by
  unfold notT
  simp only []
  split
  · rename_i hk; exact sign_keep T D n h.nots (is_kind hk).2
  split
  · rename_i hk; exact ((sum_keep T D n h s).app (leaf_keep T (cmp_e hk)) (l := [])).app (sum_keep T D n h _)
  · exact sum_keep T D n h s
theorem and_keep (s : St) : Keep s (andT T D n nt s) := row_keep T (fun _ hc => (is_kind hc).2) (not_keep T D n h) _ _ (not_keep T D n h s)
theorem or_keep (s : St) : Keep s (orT T D n nt s) := row_keep T (fun _ hc => (is_kind hc).2) (and_keep T D n h) _ _ (and_keep T D n h s)
theorem formula_keep (s : St) : Keep s (formulaT T D n nt s) := by
  unfold formulaT
  simp only []
  split
  · rename_i hk
    split
    · exact ((or_keep T D n h s).app (leaf_keep T (is_kind hk).2) (l := [])).app (nest_keep T (Keep.nil _))
    · exact ((or_keep T D n h s).app (leaf_keep T (is_kind hk).2) (l := [])).app (nest_keep T (h.formula _))
  · exact or_keep T D n h s
theorem let_keep {s : St} (hk : s.e = 0) : Keep s (letT T nt s) :=
  (((((leaf_keep T hk).app (kind_keep T _ _) (l := [])).app (must_keep T _ _) (l := [])).app (h.expr _) (l := [])).app (must_keep T _ _) (l := [])).app (h.expr _)
theorem if_keep {s : St} (hk : s.e = 0) : Keep s (ifT T nt s) :=
  (((((leaf_keep T hk).app (h.expr _) (l := [])).app (must_keep T _ _) (l := [])).app (h.expr _) (l := [])).app (must_keep T _ _) (l := [])).app (h.expr _)
theorem assert_keep {s : St} (hk : s.e = 0) : Keep s (assertT T nt s) :=
  (((leaf_keep T hk).app (h.expr _) (l := [])).app (must_keep T _ _) (l := [])).app (h.expr _)
theorem expr_keep (s : St) : Keep s (exprT T D n nt s) := by
  unfold exprT
  simp only []
  split
  · exact nest_keep T (Keep.nil _)
  split
  · rename_i hk; exact nest_keep T (let_keep T h (is_kind hk.2).2)
  split
  · rename_i hk; exact nest_keep T (if_keep T h (is_kind hk.2).2)
  split
  · rename_i hk; exact nest_keep T (assert_keep T h (is_kind hk.2).2)
  · exact nest_keep T (formula_keep T D n h _)
end
theorem nx_keep (T : List Tok) (D : Nat) : ∀ d, NxK (nxT T D d)
  | 0 => ⟨fun s => nest_keep T (Keep.nil _), fun s => Keep.nil s, fun s => Keep.nil s, fun s => Keep.nil s⟩
  | d + 1 => ⟨expr_keep T D _ (nx_keep T D d), formula_keep T D _ (nx_keep T D d), not_keep T D _ (nx_keep T D d), factor_keep T D _ (nx_keep T D d)⟩

/-! ### What is nested -/

/-- What the program reads where nothing but an expression stands: no nesting is counted. -/
def bodyE (T : List Tok) (D n : Nat) (nt : NxT) (s : St) : RT :=
  if isQ T [108, 101, 116] s = true then letT T nt s
  else if isQ T [105, 102] s = true then ifT T nt s
  else if isQ T [97, 115, 115, 101, 114, 116] s = true then assertT T nt s
  else formulaT T D n nt s
theorem body_keep (T : List Tok) (D n : Nat) {nt : NxT} (h : NxK nt) (s : St) : Keep s (bodyE T D n nt s) := by
  unfold bodyE
  split
  · rename_i hk; exact let_keep T h (is_kind hk).2
  split
  · rename_i hk; exact if_keep T h (is_kind hk).2
  split
  · rename_i hk; exact assert_keep T h (is_kind hk).2
  · exact formula_keep T D n h s
/-- All that is nested by more than n. -/
abbrev NT (T : List Tok) (D n : Nat) : NxT := nxT T D (D - n)
def nestP (T : List Tok) (D n : Nat) (sub : St → RT) (s : St) : RT := if n = D then ([], failQ T 23 s) else sub s
theorem NT_succ (T : List Tok) {D n : Nat} (h : n < D) : NT T D n = { expr := exprT T D (n + 1) (NT T D (n + 1)), formula := formulaT T D (n + 1) (NT T D (n + 1)), nots := notT T D (n + 1) (NT T D (n + 1)), factor := factorT T D (n + 1) (NT T D (n + 1)) } := by
  show nxT T D (D - n) = _
  have h1 : D - n = (D - (n + 1)) + 1 := by omega
  have h2 : D - (D - (n + 1)) = n + 1 := by omega
  rw [h1]
  show { expr := exprT T D (D - (D - (n + 1))) _, formula := formulaT T D (D - (D - (n + 1))) _, nots := notT T D (D - (D - (n + 1))) _, factor := factorT T D (D - (D - (n + 1))) _ : NxT } = _
  rw [h2]
theorem nest_deep (T : List Tok) (D : Nat) (s : St) : nestQ T D (D + 1) s = failQ T 23 s := by unfold nestQ; rw [if_pos (by omega)]
theorem nest_flat (T : List Tok) {D n : Nat} (h : n < D) (s : St) : nestQ T D (n + 1) s = s := by unfold nestQ; rw [if_neg (by omega)]
theorem expr_nest (T : List Tok) {D n : Nat} (hn : n ≤ D) (s : St) (hi : s.inn = false) : Eqv (nestP T D n (bodyE T D (n + 1) (NT T D (n + 1))) s) ((NT T D n).expr s) := by
  unfold nestP
  split
  · rename_i h
    subst h
    have : (NT T n n).expr s = ([], nestQ T n (n + 1) s) := by unfold NT; rw [Nat.sub_self]; rfl
    rw [this, nest_deep]; exact Eqv.refl _
  · rename_i h
    have hlt : n < D := by omega
    rw [NT_succ T hlt]
    show Eqv (bodyE T D (n + 1) (NT T D (n + 1)) s) (exprT T D (n + 1) (NT T D (n + 1)) s)
    unfold exprT
    rw [nest_flat T hlt]
    simp only []
    by_cases he : s.e ≠ 0
    · rw [if_pos he]
      exact ⟨(body_keep T D (n + 1) (nx_keep T D _) s).dead he, fun e => absurd e he⟩
    · rw [if_neg he]
      unfold bodyE
      simp only [hi, true_and]
      exact Eqv.refl _
theorem form_nest (T : List Tok) {D n : Nat} (hn : n ≤ D) (s : St) (hi : s.inn = true) : Eqv (nestP T D n (formulaT T D (n + 1) (NT T D (n + 1))) s) ((NT T D n).expr s) := by
  unfold nestP
  split
  · rename_i h
    subst h
    have : (NT T n n).expr s = ([], nestQ T n (n + 1) s) := by unfold NT; rw [Nat.sub_self]; rfl
    rw [this, nest_deep]; exact Eqv.refl _
  · rename_i h
    have hlt : n < D := by omega
    rw [NT_succ T hlt]
    show Eqv (formulaT T D (n + 1) (NT T D (n + 1)) s) (exprT T D (n + 1) (NT T D (n + 1)) s)
    unfold exprT
    rw [nest_flat T hlt]
    simp only []
    by_cases he : s.e ≠ 0
    · rw [if_pos he]
      exact ⟨(formula_keep T D (n + 1) (nx_keep T D _) s).dead he, fun e => absurd e he⟩
    · rw [if_neg he]
      simp only [hi, Bool.true_eq_false, false_and, if_false]
      exact Eqv.refl _
theorem leaf_live (T : List Tok) {s : St} (h : s.e = 0) : (leafT T s).2.e = 0 := by show (leafQ T s).2.e = 0; unfold leafQ; split <;> exact h
/-- A sign, and what is nested behind it. -/
theorem sign_eqv (T : List Tok) {D n : Nat} (hn : n ≤ D) {sub sub' : St → RT} (hs : n < D → sub' = sub) (s : St) (hk : s.e = 0) :
    Eqv ([.nd 11 ((leafT T s).1 ++ (nestP T D n sub (leafT T s).2).1)], (nestP T D n sub (leafT T s).2).2) (signT T D n sub' s) := by
  unfold signT nestP
  simp only []
  by_cases h : n = D
  · subst h
    rw [if_pos rfl, nest_deep, if_pos (fail_e T (by decide) _)]
    exact ⟨rfl, fun e => absurd e (fail_e T (by decide) _)⟩
  · have hlt : n < D := by omega
    rw [if_neg h, nest_flat T hlt, hs hlt, if_neg (by rw [leaf_live T hk]; decide)]
    exact Eqv.refl _
/-- A formula with what is nested behind its sign. -/
theorem form_eqv (T : List Tok) {D n : Nat} (hn : n ≤ D) {sub : St → RT} {nt : NxT} (hs : n < D → nt.formula = sub) (s : St) (hk : isQ T [61, 62] (orT T D n nt s).2 = true) :
    Eqv ([.nd 10 ((orT T D n nt s).1 ++ (leafT T (orT T D n nt s).2).1 ++ (nestP T D n sub (leafT T (orT T D n nt s).2).2).1)], (nestP T D n sub (leafT T (orT T D n nt s).2).2).2) (formulaT T D n nt s) := by
  unfold formulaT nestP
  simp only []
  rw [if_pos hk]
  by_cases h : n = D
  · subst h
    rw [if_pos rfl, nest_deep, if_pos (fail_e T (by decide) _)]
    exact ⟨rfl, fun e => absurd e (fail_e T (by decide) _)⟩
  · have hlt : n < D := by omega
    rw [if_neg h, nest_flat T hlt, hs hlt, if_neg (by rw [leaf_live T (is_kind hk).2]; decide)]
    exact Eqv.refl _

/-! ### Loops -/

theorem rwT_stop {T : List Tok} {c : St → Bool} {sub : St → RT} {r : RT} (hc : c r.2 = false) : ∀ f, rwT T c sub f r = r
  | 0 => rfl
  | f + 1 => by unfold rwT; rw [hc]; rfl
def rowS (T : List Tok) (sub : St → RT) (r : RT) : RT := ([.nd 10 (r.1 ++ (leafT T r.2).1 ++ (sub (leafT T r.2).2).1)], (sub (leafT T r.2).2).2)
def LeftR (T : List Tok) (c : St → Bool) (sub : St → RT) (R r : RT) : Prop := ∃ f, T.length - r.2.i + 1 ≤ f ∧ rwT T c sub f r = R
theorem LeftR.start (T : List Tok) (c : St → Bool) (sub : St → RT) (s : St) : LeftR T c sub (rwT T c sub (fuelQ T (sub s).2) (sub s)) (sub s) := ⟨_, Nat.le_refl _, rfl⟩
theorem LeftR.stop {T : List Tok} {c : St → Bool} {sub : St → RT} {R r : RT} (h : LeftR T c sub R r) (hc : c r.2 = false) : R = r := by
  obtain ⟨f, -, hf⟩ := h; rw [← hf, rwT_stop hc]
theorem leaf_i {T : List Tok} {s : St} (hk : (tokQ T s).kind ≠ 5) : (leafT T s).2.i = s.i + 1 := (leaf_fits hk).2
theorem LeftR.next {T : List Tok} {c : St → Bool} {sub : St → RT} {R r : RT} (h : LeftR T c sub R r) (hc : c r.2 = true) (hk : (tokQ T r.2).kind ≠ 5) (hi : r.2.i < T.length) (hm : (leafT T r.2).2.i ≤ (sub (leafT T r.2).2).2.i) : LeftR T c sub R (rowS T sub r) ∧ r.2.i < (rowS T sub r).2.i := by
  obtain ⟨f, hf, hr⟩ := h
  have h1 := leaf_i hk
  have h2 : r.2.i < (rowS T sub r).2.i := by show r.2.i < (sub (leafT T r.2).2).2.i; omega
  refine ⟨⟨f - 1, by omega, ?_⟩, h2⟩
  obtain ⟨k, rfl⟩ : ∃ k, f = k + 1 := ⟨f - 1, by omega⟩
  unfold rwT at hr
  rw [if_pos hc] at hr
  exact hr

/-- Parts with commas, as the program goes at them: j rounds are left. -/
def loopP (T : List Tok) (sub : St → RT) : Nat → RT → RT
  | 0, r => (r.1, failQ T 15 r.2)
  | j + 1, r => if isQ T [44] (sub r.2).2 = true then loopP T sub j (r.1 ++ (sub r.2).1 ++ (leafT T (sub r.2).2).1, (leafT T (sub r.2).2).2) else (r.1 ++ (sub r.2).1, (sub r.2).2)
def listP (T : List Tok) (sub : St → RT) (s : St) : RT := if isQ T [41] s = true then ([], s) else loopP T sub 8 ([], s)
theorem parts_stopT {T : List Tok} {sub : St → RT} {r : RT} {k : Nat} (hc : isQ T [44] r.2 = false) : ∀ f, partsT T sub f k r = r
  | 0 => rfl
  | f + 1 => by unfold partsT; rw [hc]; rfl
theorem is_live {T : List Tok} {x : List UInt8} {s : St} (h : s.e ≠ 0) : isQ T x s = false := by unfold isQ; exact decide_eq_false (fun e => h e.1)
theorem loop_parts (T : List Tok) {sub : St → RT} (hs : ∀ s, Good T s (sub s)) (hk : ∀ s, s.e ≠ 0 → (sub s).2 = s) : ∀ (j f : Nat) (r : RT), j + 1 ≤ 8 → T.length - (sub r.2).2.i + 1 ≤ f → r.2.i ≤ T.length → Eqv (loopP T sub (j + 1) r) (partsT T sub f (8 - j) (r.1 ++ (sub r.2).1, (sub r.2).2)) := by
  intro j
  induction j with
  | zero =>
    intro f r _ hf hr
    unfold loopP
    by_cases hc : isQ T [44] (sub r.2).2 = true
    · obtain ⟨g, rfl⟩ : ∃ g, f = g + 1 := ⟨f - 1, by omega⟩
      rw [if_pos hc]
      unfold partsT
      rw [if_pos hc]
      simp only [Nat.sub_zero, if_true]
      have hd : (failQ T 15 (leafT T (sub r.2).2).2).e ≠ 0 := fail_e T (by decide) _
      have h2 := hk _ hd
      rw [h2, parts_stopT (is_live hd)]
      exact ⟨rfl, fun e => absurd e hd⟩
    · rw [if_neg hc, parts_stopT (by simpa using hc)]
      exact Eqv.refl _
  | succ j ih =>
    intro f r hj hf hr
    have e1 : loopP T sub (j + 1 + 1) r = if isQ T [44] (sub r.2).2 = true then loopP T sub (j + 1) (r.1 ++ (sub r.2).1 ++ (leafT T (sub r.2).2).1, (leafT T (sub r.2).2).2) else (r.1 ++ (sub r.2).1, (sub r.2).2) := by rw [loopP]
    rw [e1]
    by_cases hc : isQ T [44] (sub r.2).2 = true
    · obtain ⟨g, rfl⟩ : ∃ g, f = g + 1 := ⟨f - 1, by omega⟩
      rw [if_pos hc]
      unfold partsT
      rw [if_pos hc]
      simp only []
      rw [if_neg (show ¬ 8 - (j + 1) = 8 by omega), show 8 - (j + 1) + 1 = 8 - j by omega]
      have hki := (is_kind hc).1
      have hl := leaf_i (T := T) (s := (sub r.2).2) hki
      have hm := (hs (leafT T (sub r.2).2).2).mono
      have hlt : (sub r.2).2.i < T.length := by
        rcases Nat.lt_or_ge (sub r.2).2.i T.length with h | h
        · exact h
        · exact absurd (by unfold tokQ; rw [List.getElem?_eq_none h]; rfl) hki
      exact ih g (r.1 ++ (sub r.2).1 ++ (leafT T (sub r.2).2).1, (leafT T (sub r.2).2).2) (by omega) (by show T.length - (sub (leafT T (sub r.2).2).2).2.i + 1 ≤ g; omega) (by show (leafT T (sub r.2).2).2.i ≤ T.length; omega)
    · rw [if_neg hc, parts_stopT (by simpa using hc)]
      exact Eqv.refl _
/-- Parts, or none, up to a parenthesis. -/
theorem list_parts (T : List Tok) {sub : St → RT} (hs : ∀ s, Good T s (sub s)) (hk : ∀ s, s.e ≠ 0 → (sub s).2 = s) (s : St) (hi : s.i ≤ T.length) : Eqv (listP T sub s) (if isQ T [41] s = true then ([], s) else partsT T sub (fuelQ T (sub s).2) 1 (sub s)) := by
  unfold listP
  split
  · exact Eqv.refl _
  · have h := loop_parts T hs hk 7 (fuelQ T (sub s).2) ([], s) (by omega) (Nat.le_refl _) hi
    simpa using h
end Go.Proofs.YtmlcpihedmmlfaaGreatDoor
namespace Go.Proofs.YtmlcpihedmmlfaaGreatDoor

mutual
def kOk : Tr → Prop
  | .lf _ => True
  | .nd k l => 1 ≤ k ∧ k ≤ 18 ∧ kOks l
def kOks : List Tr → Prop
  | [] => True
  | t :: l => kOk t ∧ kOks l
end
theorem kOks_append {a b : List Tr} (h1 : kOks a) (h2 : kOks b) : kOks (a ++ b) := by
  induction a with
  | nil => exact h2
  | cons t a ih => simp only [List.cons_append, kOks] at h1 ⊢; exact ⟨h1.1, ih h1.2⟩
theorem kOks_nd {k : Nat} {l : List Tr} (h1 : 1 ≤ k) (h2 : k ≤ 18) (h : kOks l) : kOks [.nd k l] := by simp only [kOks, kOk]; exact ⟨⟨h1, h2, h⟩, trivial⟩
theorem kOks_nil : kOks [] := by simp [kOks]
abbrev KO (r : RT) : Prop := kOks r.1
section
variable (T : List Tok)
theorem leaf_ko (s : St) : KO (leafT T s) := by simp [KO, leafT, kOks, kOk]
theorem must_ko (w : List UInt8) (s : St) : KO (mustT T w s) := by unfold mustT; split; exact leaf_ko T s; exact kOks_nil
theorem kind_ko (k : Nat) (s : St) : KO (kindT T k s) := by unfold kindT; split; exact leaf_ko T s; exact kOks_nil
theorem row_ko {c : St → Bool} {sub : St → RT} (hs : ∀ s, KO (sub s)) : ∀ f r, KO r → KO (rwT T c sub f r)
  | 0, r, h => h
  | f + 1, r, h => by
    unfold rwT
    split
    · exact row_ko hs f _ (kOks_nd (by decide) (by decide) (kOks_append (kOks_append h (leaf_ko T _)) (hs _)))
    · exact h
theorem parts_ko {sub : St → RT} (hs : ∀ s, KO (sub s)) : ∀ f k r, KO r → KO (partsT T sub f k r)
  | 0, k, r, h => h
  | f + 1, k, r, h => by
    unfold partsT
    split
    · exact parts_ko hs f _ _ (kOks_append (kOks_append h (leaf_ko T _)) (hs _))
    · exact h
structure NxO (nt : NxT) : Prop where
  expr : ∀ s, KO (nt.expr s)
  formula : ∀ s, KO (nt.formula s)
  nots : ∀ s, KO (nt.nots s)
  factor : ∀ s, KO (nt.factor s)
end
section
variable (T : List Tok) (D n : Nat) {nt : NxT} (h : NxO nt)
include h
theorem args_ko (s : St) : KO (argsT T nt s) := parts_ko T h.expr _ _ _ (h.expr s)
omit h in
theorem nameB_ko {a : RT} (ha : KO a) : KO (nameBT T a) := by
  unfold nameBT; split
  · exact kOks_append (kOks_append ha (leaf_ko T _)) (kind_ko T _ _)
  · exact ha
omit h in
theorem nameC_ko {a : RT} (ha : KO a) : KO (nameCT T a) := kOks_append ha (must_ko T _ _)
theorem nameD_ko {a : RT} (ha : KO a) : KO (nameDT T nt a) := by
  unfold nameDT; split
  · exact ha
  · exact kOks_append ha (args_ko T h _)
omit h in
theorem nameE_ko {a : RT} (ha : KO a) : KO (nameET T a) := kOks_nd (by decide) (by decide) (kOks_append ha (must_ko T _ _))
theorem name_ko (s : St) : KO (nameT T nt s) := by
  unfold nameT; split
  · exact kOks_nd (by decide) (by decide) (leaf_ko T _)
  · exact nameE_ko T (nameD_ko T h (nameC_ko T (nameB_ko T (leaf_ko T _))))
theorem atom_ko (s : St) : KO (atomT T nt s) := by
  unfold atomT
  split
  · exact kOks_nil
  split
  · exact kOks_nd (by decide) (by decide) (leaf_ko T _)
  split
  · exact kOks_nd (by decide) (by decide) (leaf_ko T _)
  split
  · exact kOks_nd (by decide) (by decide) (leaf_ko T _)
  split
  · exact kOks_nd (by decide) (by decide) (kOks_append (kOks_append (leaf_ko T _) (h.expr _)) (must_ko T _ _))
  split
  · exact name_ko T h s
  · exact kOks_nil
omit h in
theorem sign_ko {sub : St → RT} (hs : ∀ s, KO (sub s)) (s : St) : KO (signT T D n sub s) := by
  unfold signT
  simp only []
  split
  · exact kOks_nil
  · exact kOks_nd (by decide) (by decide) (kOks_append (leaf_ko T _) (hs _))
theorem factor_ko (s : St) : KO (factorT T D n nt s) := by
  unfold factorT; split
  · exact sign_ko T D n h.factor s
  · exact atom_ko T h s
theorem product_ko (s : St) : KO (productT T D n nt s) := row_ko T (factor_ko T D n h) _ _ (factor_ko T D n h s)
theorem sum_ko (s : St) : KO (sumT T D n nt s) := row_ko T (product_ko T D n h) _ _ (product_ko T D n h s)
theorem not_ko (s : St) : KO (notT T D n nt s) := by
  unfold notT
  simp only []
  split
  · exact sign_ko T D n h.nots s
  split
  · exact kOks_nd (by decide) (by decide) (kOks_append (kOks_append (sum_ko T D n h s) (leaf_ko T _)) (sum_ko T D n h _))
  · exact sum_ko T D n h s
theorem and_ko (s : St) : KO (andT T D n nt s) := row_ko T (not_ko T D n h) _ _ (not_ko T D n h s)
theorem or_ko (s : St) : KO (orT T D n nt s) := row_ko T (and_ko T D n h) _ _ (and_ko T D n h s)
theorem formula_ko (s : St) : KO (formulaT T D n nt s) := by
  unfold formulaT
  simp only []
  split
  · split
    · exact kOks_nil
    · exact kOks_nd (by decide) (by decide) (kOks_append (kOks_append (or_ko T D n h s) (leaf_ko T _)) (h.formula _))
  · exact or_ko T D n h s
theorem let_ko (s : St) : KO (letT T nt s) :=
  kOks_nd (by decide) (by decide) (kOks_append (kOks_append (kOks_append (kOks_append (kOks_append (leaf_ko T _) (kind_ko T _ _)) (must_ko T _ _)) (h.expr _)) (must_ko T _ _)) (h.expr _))
theorem if_ko (s : St) : KO (ifT T nt s) :=
  kOks_nd (by decide) (by decide) (kOks_append (kOks_append (kOks_append (kOks_append (kOks_append (leaf_ko T _) (h.expr _)) (must_ko T _ _)) (h.expr _)) (must_ko T _ _)) (h.expr _))
theorem assert_ko (s : St) : KO (assertT T nt s) :=
  kOks_nd (by decide) (by decide) (kOks_append (kOks_append (kOks_append (leaf_ko T _) (h.expr _)) (must_ko T _ _)) (h.expr _))
theorem expr_ko (s : St) : KO (exprT T D n nt s) := by
  unfold exprT
  simp only []
  split
  · exact kOks_nil
  split
  · exact let_ko T h _
  split
  · exact if_ko T h _
  split
  · exact assert_ko T h _
  · exact formula_ko T D n h _
end
theorem nx_ko (T : List Tok) (D : Nat) : ∀ d, NxO (nxT T D d)
  | 0 => ⟨fun s => kOks_nil, fun s => kOks_nil, fun s => kOks_nil, fun s => kOks_nil⟩
  | d + 1 => ⟨expr_ko T D _ (nx_ko T D d), formula_ko T D _ (nx_ko T D d), not_ko T D _ (nx_ko T D d), factor_ko T D _ (nx_ko T D d)⟩
section
variable (T : List Tok) {et : St → RT} (h : ∀ s, KO (et s))
include h
omit h in
theorem typB_ko {a : RT} (ha : KO a) : KO (typBT T a) := by
  unfold typBT; split
  · exact kOks_append ha (kOks_nd (by decide) (by decide) (leaf_ko T _))
  · exact ha
theorem typC_ko {a : RT} (ha : KO a) : KO (typCT T et a) := by
  unfold typCT; split
  · exact kOks_append ha (kOks_nd (by decide) (by decide) (kOks_append (kOks_append (leaf_ko T _) (h _)) (must_ko T _ _)))
  · exact ha
theorem typed_ko (s : St) : KO (typedT T et s) := typC_ko T h (typB_ko T (must_ko T _ s))
theorem par_ko (s : St) : KO (parT T et s) := kOks_nd (by decide) (by decide) (kOks_append (kind_ko T _ s) (typed_ko T h _))
theorem params_ko (s : St) : KO (paramsT T et s) := parts_ko T (par_ko T h) _ _ _ (par_ko T h s)
omit h in
theorem defA_ko (s : St) : KO (defAT T s) := by unfold defAT; split; exact leaf_ko T s; exact kOks_nil
omit h in
theorem defB_ko {a : RT} (ha : KO a) : KO (defBT T a) := kOks_append ha (kOks_append (kOks_append (must_ko T _ _) (kind_ko T _ _)) (must_ko T _ _))
theorem defC_ko {a : RT} (ha : KO a) : KO (defCT T et a) := by
  unfold defCT; split
  · exact kOks_append ha (params_ko T h _)
  · exact ha
theorem defD_ko {a : RT} (ha : KO a) : KO (defDT T et a) :=
  kOks_append (kOks_append (kOks_append ha (kOks_append (kOks_append (must_ko T _ _) (typed_ko T h _)) (must_ko T _ _))) (h _)) (must_ko T _ _)
theorem def_ko (s : St) : KO (defT T et s) := kOks_nd (by decide) (by decide) (defD_ko T h (defC_ko T h (defB_ko T (defA_ko T s))))
omit h in
theorem imp_ko {r : RT} (hr : KO r) : KO (impStepT T r) := kOks_append hr (kOks_nd (by decide) (by decide) (kOks_append (kOks_append (leaf_ko T _) (kind_ko T _ _)) (must_ko T _ _)))
omit h in
theorem many_ko {c : St → Bool} {step : RT → RT} {most : Nat} (hs : ∀ r, KO r → KO (step r)) : ∀ f k r, KO r → KO (manyT T c step most f k r).2
  | 0, k, r, hr => hr
  | f + 1, k, r, hr => by
    unfold manyT
    split
    · split
      · exact kOks_nil
      · exact many_ko hs f _ _ (hs r hr)
    · exact hr
theorem program_ko (s : St) : KO (programT T et s) := by
  have h1 : KO (importsT T ([], s)).2 := many_ko T (fun r hr => imp_ko T hr) _ _ _ kOks_nil
  have h2 : KO (defsT T et (importsT T ([], s)).2).2 := many_ko T (fun r hr => kOks_append hr (def_ko T h _)) _ _ _ h1
  unfold programT
  split
  · exact h1
  split
  · exact h2
  · exact kOks_append h2 (kind_ko T _ _)
theorem alone_ko (s : St) : KO (aloneT T et s) := kOks_append (h _) (kind_ko T _ _)
end
theorem tree_ko (T : List Tok) (D : Nat) (f : Bool) : KO (treeT T D f) := by
  unfold treeT
  split
  · exact alone_ko T (nx_ko T D D).expr _
  · exact program_ko T (nx_ko T D D).expr _
end Go.Proofs.YtmlcpihedmmlfaaGreatDoor
