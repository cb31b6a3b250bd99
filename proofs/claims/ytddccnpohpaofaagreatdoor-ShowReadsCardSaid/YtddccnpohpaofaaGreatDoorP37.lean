/- Lemmas. -/
import Derived.Test.YtddccnpohpaofaaGreatDoorP35
set_option linter.unusedVariables false
set_option linter.unusedSimpArgs false
namespace Go.Proofs.YtddccnpohpaofaaGreatDoor
open Go.RowKit

/-- What is answered: a tree's dump and no fault, or a fault and its place. -/
def ansQ (l : List UInt8) (D : Int) (f : Bool) : List UInt8 × Nat × Nat := if D < 1 ∨ 200 < D then ([], 12, 0) else parseQ l D.toNat f
def kindR (f : Bool) : Nat := if f = true then 18 else 1
/-- The nodes of the tree of a text. -/
def nodesQ (l : List UInt8) (D : Int) (f : Bool) : List Nd := post 0 (.nd (kindR f) (treeT (allE l).1 D.toNat f).1)
def badV (e p : Nat) : Value := .tuple #[.agg #[.slice none 0 0, .slice none 0 0], .agg #[.int .i64 (e : Int), .int .i64 (p : Int)]]
def RdPost (l : List UInt8) (D : Int) (f : Bool) (w : World) (e : Ending) (w' : World) : Prop :=
  w.grownBy w' none ∧ if (ansQ l D f).2.1 ≠ 0 then e = .returned (badV (ansQ l D f).2.1 (ansQ l D f).2.2)
    else ∃ pt ct pn cn K, e = .returned (.tuple #[.agg #[.slice pt (allE l).1.length ct, .slice pn (nodesQ l D f).length cn], .agg #[.int .i64 0, .int .i64 0]]) ∧ TAt w' pt (allE l).1 ∧ (allE l).1.length ≤ ct ∧ NodesAt w' pn (nodesQ l D f) K ∧ ((allE l).1 ≠ [] → ∀ a, pt = some a → w.heap.size ≤ a.block) ∧ (nodesQ l D f ≠ [] → ∀ a, pn = some a → w.heap.size ≤ a.block) ∧ FarK (nodesQ l D f) K (fun k => w.heap.size ≤ k) ∧ (nodesQ l D f).length ≤ 2 * (allE l).1.length

theorem put4 {X : World} {B : Nat} {ty1 ty2 : TypeId} {x0 x1 y0 y1 : Value} (hT : X.heap[B]? = some (.cells #[x0, x1] ty1 (0, 0))) (hF : X.heap[B + 1]? = some (.cells #[y0, y1] ty2 (0, 0))) (a b c d : Value) :
    ((((X.setCell ⟨B, 0, none⟩ a).setCell ⟨B, 1, none⟩ b).setCell ⟨B + 1, 0, none⟩ c).setCell ⟨B + 1, 1, none⟩ d).heap[B]? = some (.cells #[a, b] ty1 (0, 0)) ∧ ((((X.setCell ⟨B, 0, none⟩ a).setCell ⟨B, 1, none⟩ b).setCell ⟨B + 1, 0, none⟩ c).setCell ⟨B + 1, 1, none⟩ d).heap[B + 1]? = some (.cells #[c, d] ty2 (0, 0)) ∧ Fr2 (fun k => k = B ∨ k = B + 1) X ((((X.setCell ⟨B, 0, none⟩ a).setCell ⟨B, 1, none⟩ b).setCell ⟨B + 1, 0, none⟩ c).setCell ⟨B + 1, 1, none⟩ d) := by
  have q0 := (Fr2.setCell (S := fun k => k = B) (Fr2.refl _ X) (g := B) (j := 0) rfl a).setCell (g := B) (j := 1) rfl b
  have q1 := (Fr2.setCell (S := fun k => k = B + 1) (Fr2.refl _ ((X.setCell ⟨B, 0, none⟩ a).setCell ⟨B, 1, none⟩ b)) (g := B + 1) (j := 0) rfl c).setCell (g := B + 1) (j := 1) rfl d
  refine ⟨q1.keep (set_cells (i := 1) (u := b) (set_cells (i := 0) (u := a) hT)) (by omega), set_cells (i := 1) (u := d) (set_cells (i := 0) (u := c) (q0.keep hF (by omega))), ?_⟩
  exact ((((Fr2.refl _ X).setCell (.inl rfl) a).setCell (.inl rfl) b).setCell (.inr rfl) c).setCell (.inr rfl) d
/-- The parser at the beginning. -/
theorem XAt.init {T : List Tok} {D : Nat} {w2 w3 : World} {b bb : Nat} {v1 v2 v3 v4 : Value} (hb : w2.heap.size = b) (hbld : BldV w2 bb T 0 [] (.slice none 0 0)) (hbb : bb < b) (hpos : 0 < T.length) (hg : (w2.alloc (.cells #[.pointer (some ⟨bb, 0, none⟩), v1, v2, v3, v4, .int .i64 (D : Int), .int .i64 0, .bool false, .int .i64 0, .int .i64 0] 100)).grownBy w3 none) :
    XAt ((((w3.setCell ⟨b, 1, none⟩ (.int .i64 ((tokQ T startQ).kind : Int))).setCell ⟨b, 2, none⟩ (strV (tokQ T startQ).lead)).setCell ⟨b, 3, none⟩ (strV (tokQ T startQ).text)).setCell ⟨b, 4, none⟩ (.int .i64 ((tokQ T startQ).pos : Int))) b bb T D 0 startQ 0 [] (.slice none 0 0) (fun k => b < k) ∧ Fr2 (Self b) w3 ((((w3.setCell ⟨b, 1, none⟩ (.int .i64 ((tokQ T startQ).kind : Int))).setCell ⟨b, 2, none⟩ (strV (tokQ T startQ).lead)).setCell ⟨b, 3, none⟩ (strV (tokQ T startQ).text)).setCell ⟨b, 4, none⟩ (.int .i64 ((tokQ T startQ).pos : Int))) := by
  have hf : Fr2 (Self b) w3 ((((w3.setCell ⟨b, 1, none⟩ (.int .i64 ((tokQ T startQ).kind : Int))).setCell ⟨b, 2, none⟩ (strV (tokQ T startQ).lead)).setCell ⟨b, 3, none⟩ (strV (tokQ T startQ).text)).setCell ⟨b, 4, none⟩ (.int .i64 ((tokQ T startQ).pos : Int))) := ((((Fr2.refl _ _).setCell (mine b) _).setCell (mine b) _).setCell (mine b) _).setCell (mine b) _
  have hbox := heap_alloc_new w2 (.cells #[.pointer (some ⟨bb, 0, none⟩), v1, v2, v3, v4, .int .i64 (D : Int), .int .i64 0, .bool false, .int .i64 0, .int .i64 0] 100)
  rw [hb] at hbox
  have hbox := bx hg hbox
  have hlt := hlt' hbox
  have hb2 := set_cells (i := 4) (u := .int .i64 ((tokQ T startQ).pos : Int)) (set_cells (i := 3) (u := strV (tokQ T startQ).text) (set_cells (i := 2) (u := strV (tokQ T startQ).lead) (set_cells (i := 1) (u := .int .i64 ((tokQ T startQ).kind : Int)) hbox)))
  obtain ⟨pt, ct, K, hB⟩ := (hbld.kept (World.grownBy_alloc w2 _ none)).kept hg
  have hfar : FarV w3 bb T 0 [] (.slice none 0 0) (fun k => b < k) := ⟨pt, ct, K, hB, fun i x hx => by simp at hx⟩
  refine ⟨⟨hb2.trans rfl, hfar.keptF hf (fun k hk e => by unfold Self at e; omega) (fun k e => (by cases e)) (fun k hk e => by unfold Self at e; omega) (fun _ _ h => h), fun k hk => hk, fun k hk => ?_, hbb, fun k e => (by cases e), hpos, Nat.zero_le _⟩, hf⟩
  exact Nat.lt_of_lt_of_le (Nat.lt_of_lt_of_le hlt hf.size) hk
theorem GAt.keptB {s : Nat} {S : Nat → Prop} {w w' : World} {p : Option Addr} {l : List (List Value)} (h : GAt s w p l) (hf : Fr2 S w w') (hS : l ≠ [] → ∀ a, p = some a → ¬ S a.block) : GAt s w' p l := GAt.keptS h hf hS
theorem rd_bad {l : List UInt8} {D : Int} {f : Bool} {w w' : World} {n p : Nat} (h : (ansQ l D f).2 = (n, p)) (hn : n ≠ 0) (hg : w.grownBy w' none) : RdPost l D f w (.returned (badV n p)) w' := by
  refine ⟨hg, ?_⟩
  rw [h, if_pos hn]
theorem ans_good {l : List UInt8} {D : Int} {f : Bool} (h1 : ¬ (D < 1 ∨ 200 < D)) (hl : l.length ≤ 65536) (h : (allE l).2.1 = 0) : (ansQ l D f).2 = if (treeT (allE l).1 D.toNat f).2.e = 0 then (0, 0) else ((treeT (allE l).1 D.toNat f).2.e, (treeT (allE l).1 D.toNat f).2.pos) := by
  unfold ansQ
  rw [if_neg h1, parse_good hl h]
  split <;> rfl
theorem ans_lex {l : List UInt8} {D : Int} {f : Bool} (h1 : ¬ (D < 1 ∨ 200 < D)) (hl : l.length ≤ 65536) (h : (allE l).2.1 ≠ 0) : (ansQ l D f).2 = ((allE l).2.1, (allE l).2.2) := by
  unfold ansQ parseQ
  rw [if_neg h1, if_neg (by omega), if_pos h]
theorem kids_room (t : Tr) : ∀ (b : Nat) (x : Nd), x ∈ post b t → x.kids.length ≤ (post b t).length := by
  have key : ∀ n : Nat, (∀ t : Tr, szR t ≤ n → ∀ b x, x ∈ post b t → x.kids.length ≤ szR t) ∧ (∀ l : List Tr, szRs l ≤ n → ∀ b x, x ∈ posts b l → x.kids.length ≤ szRs l) := by
    intro n
    induction n with
    | zero =>
      refine ⟨fun t h => absurd (szR_pos t) (by omega), fun l h b x hx => ?_⟩
      cases l with
      | nil => simp [posts] at hx
      | cons t l => have := szR_pos t; simp only [szRs] at h; omega
    | succ n ih =>
      have ht : ∀ t : Tr, szR t ≤ n + 1 → ∀ b x, x ∈ post b t → x.kids.length ≤ szR t := by
        intro t h b x hx
        cases t with
        | lf i => simp [post] at hx; subst hx; simp
        | nd k l =>
          simp only [szR] at h ⊢
          simp only [post, List.mem_append, List.mem_singleton] at hx
          have hlen : l.length ≤ szRs l := by
            clear h hx
            induction l with
            | nil => exact Nat.le_refl _
            | cons t l ih2 => have := szR_pos t; simp only [szRs, List.length_cons]; omega
          rcases hx with hx | rfl
          · have := ih.2 l (by omega) b x hx; omega
          · rw [idxs_len]; omega
      refine ⟨ht, fun l => ?_⟩
      induction l with
      | nil => intro h b x hx; simp [posts] at hx
      | cons t l ih2 =>
        intro h b x hx
        simp only [szRs] at h ⊢
        simp only [posts, List.mem_append] at hx
        rcases hx with hx | hx
        · have := ht t (by omega) b x hx; omega
        · have := ih2 (by omega) (b + szR t) x hx; omega
  intro b x hx
  rw [post_len]
  exact (key (szR t)).1 t (Nat.le_refl _) b x hx

set_option maxRecDepth 100000 in
set_option maxHeartbeats 8000000 in
theorem read_alone (s : ByteArray) (D : Int) (w : World) (hs : s.size ≤ 25000) (hla : LaidE w) : Calls Tryz.prog 17 #[.string s, .int .i64 D, .func (.func 18) #[] #[]] w (RdPost s.data.toList D true w) := by
  have HTR0 := Lib.hid (heap_alloc_new w (.cells #[.slice none 0 0, .slice none 0 0] 42))
  obtain ⟨B, hB⟩ : ∃ B, w.heap.size = B := ⟨_, rfl⟩
  have HB := Lib.hid hB
  have HG0 : Hid (w.grownBy ((w.alloc (.cells #[.slice none 0 0, .slice none 0 0] 42)).alloc (.cells #[.int .i64 0, .int .i64 0] 44)) none) := Lib.hid (gb_alloc (gb_alloc (gb_refl _ _) _) _)
  have hT1 : ((w.alloc (.cells #[.slice none 0 0, .slice none 0 0] 42)).alloc (.cells #[.int .i64 0, .int .i64 0] 44)).heap[B]? = some (.cells #[.slice none 0 0, .slice none 0 0] 42 (0, 0)) := by rw [← hB]; exact bx (World.grownBy_alloc _ _ none) (heap_alloc_new w _)
  have hF1 : ((w.alloc (.cells #[.slice none 0 0, .slice none 0 0] 42)).alloc (.cells #[.int .i64 0, .int .i64 0] 44)).heap[B + 1]? = some (.cells #[.int .i64 0, .int .i64 0] 44 (0, 0)) := by
    have h9 := heap_alloc_new (w.alloc (.cells #[.slice none 0 0, .slice none 0 0] 42)) (.cells #[.int .i64 0, .int .i64 0] 44)
    rw [show (w.alloc (.cells #[.slice none 0 0, .slice none 0 0] 42)).heap.size = B + 1 by simp [hB]] at h9
    exact h9
  obtain ⟨t0, t1, t2⟩ := cells2 hT1
  obtain ⟨f0, f1, f2⟩ := cells2 hF1
  have HT1 := Lib.hid hT1; have HF1 := Lib.hid hF1
  have hSZ : ((w.alloc (.cells #[.slice none 0 0, .slice none 0 0] 42)).alloc (.cells #[.int .i64 0, .int .i64 0] 44)).heap.size = B + 2 := by simp [hB]
  have HSZ := Lib.hid hSZ
  clear hT1 hF1 HTR0 hSZ
  obtain ⟨l, hl⟩ : ∃ l, s.data.toList = l := ⟨_, rfl⟩
  have HLL : Hid (l.length ≤ 25000) := Lib.hid (by rw [← hl, list_len]; exact hs)
  by_cases hbad : D < 1 ∨ 200 < D
  · have HA : Hid ((ansQ l D true).2 = (12, 0)) := Lib.hid (by unfold ansQ; rw [if_pos hbad])
    have HPB : Hid (∀ w', w.grownBy w' none → RdPost l D true w (.returned (badV 12 0)) w') := Lib.hid (fun w' hg => rd_bad HA.out (by decide) hg)
    rw [hl]
    clear hs hla hl hB t0 t1 t2 f0 f1 f2
    by_cases h1 : D < 1
    · have e1 : decide (D < 1) = true := decide_eq_true h1
      clear hbad h1
      go_enter Tryz.func17, Tryz.ntmps17
      go_wp2_with fail
      refine bodyPost_ret (v := badV 12 0) (by simp [results, Tryz.results17, go_sem, badV]) rfl ?_
      exact HPB.out _ (gb_alloc (gb_alloc (gb_refl _ _) _) _)
    · have e1 : decide (D < 1) = false := decide_eq_false h1
      have e2 : decide (200 < D) = true := decide_eq_true (by omega)
      clear hbad h1
      go_enter Tryz.func17, Tryz.ntmps17
      go_wp2_with fail
      refine bodyPost_ret (v := badV 12 0) (by simp [results, Tryz.results17, go_sem, badV]) rfl ?_
      exact HPB.out _ (gb_alloc (gb_alloc (gb_refl _ _) _) _)
  · obtain ⟨d, rfl⟩ : ∃ d : Nat, D = (d : Int) := ⟨D.toNat, by omega⟩
    have e1 : decide (d < 1) = false := decide_eq_false (by omega)
    have e1' : decide ((d : Int) < 1) = false := decide_eq_false (by omega)
    have e2 : decide (200 < d) = false := decide_eq_false (by omega)
    have e2' : decide ((200 : Int) < (d : Int)) = false := decide_eq_false (by omega)
    have HRG := Lib.hid hbad
    have HD : Hid (d ≤ 200) := Lib.hid (by omega)
    have HLX := Lib.hid (fun W (h : LaidE W) => Lex_c s W (by omega) h)
    have HLA := Lib.hid (hla.kept HG0.out)
    rw [hl] at HLX ⊢
    clear hs hla hl hbad
    go_enter Tryz.func17, Tryz.ntmps17
    go_wp2_with fail
    try rw [hB]
    refine (HLX.out _ HLA.out).mono ?_
    rintro e w1 ⟨hg1, he⟩
    rw [if_neg (by have := HLL.out; omega)] at he
    have HG1 := Lib.hid (gb_trans HG0.out hg1)
    have HT1 := Lib.hid (bx hg1 HT1.out); have HF1 := Lib.hid (bx hg1 HF1.out)
    have HSZ1 : Hid (B + 2 ≤ w1.heap.size) := Lib.hid (by have h1 := hg1.size; have h2 := HSZ.out; omega)
    clear hg1 HLX HLA HG0 t0 t1 t2 f0 f1 f2 hB
    by_cases hlx : (allE l).2.1 ≠ 0
    · rw [if_pos hlx] at he
      subst he
      have HA : Hid ((ansQ l (d : Int) true).2 = ((allE l).2.1, (allE l).2.2)) := Lib.hid (ans_lex HRG.out (by have := HLL.out; omega) hlx)
      have HPB : Hid (∀ w', w.grownBy w' none → RdPost l (d : Int) true w (.returned (badV (allE l).2.1 (allE l).2.2)) w') := Lib.hid (fun w' hg => rd_bad HA.out hlx hg)
      obtain ⟨E, hE⟩ : ∃ E, (allE l).2.1 = E := ⟨_, rfl⟩
      obtain ⟨P, hP⟩ : ∃ P, (allE l).2.2 = P := ⟨_, rfl⟩
      rw [hE] at hlx
      rw [hE, hP] at HPB ⊢
      have e3 : (E != 0) = true := bne_iff_ne.2 hlx
      have e3' : ((E : Int) != 0) = true := bne_iff_ne.2 (by omega)
      obtain ⟨t0, t1, t2⟩ := cells2 (bx (World.grownBy_alloc w1 (.cells #[.int .i64 (E : Int), .int .i64 (P : Int)] 44) none) HT1.out)
      obtain ⟨f0, f1, f2⟩ := cells2 (bx (World.grownBy_alloc w1 (.cells #[.int .i64 (E : Int), .int .i64 (P : Int)] 44) none) HF1.out)
      have hq9 := cells2 (heap_alloc_new w1 (.cells #[.int .i64 (E : Int), .int .i64 (P : Int)] 44))
      have hsz1 := HSZ1.out
      clear hE hP hlx HA
      go_wp2_with fail
      go_region
      all_goals
        obtain ⟨hp1, hp2, hpf⟩ := put4 (bx (World.grownBy_alloc w1 (.cells #[.int .i64 (E : Int), .int .i64 (P : Int)] 44) none) HT1.out) (bx (World.grownBy_alloc w1 (.cells #[.int .i64 (E : Int), .int .i64 (P : Int)] 44) none) HF1.out) (.slice none 0 0) (.slice none 0 0) (.int .i64 (E : Int)) (.int .i64 (P : Int))
        obtain ⟨k0, k1, -⟩ := cells2 (bx (gb_drew (gb_refl _ none)) hp1)
        obtain ⟨m0, m1, -⟩ := cells2 (bx (gb_drew (gb_refl _ none)) hp2)
        have HGE := Lib.hid (gb_drew (Fr2.after (gb_alloc HG1.out _) hpf (fun j hj => by have := HB.out; rcases hj with h | h <;> omega)))
        clear hp1 hp2 hpf t0 t1 t2 f0 f1 f2 hq9 hsz1
        go_wp2_with fail
        refine bodyPost_ret (v := badV E P) (by simp [results, Tryz.results17, go_sem, k0, k1, m0, m1, badV]) rfl (HPB.out _ HGE.out)
    · rw [if_neg hlx] at he
      have hgood : (allE l).2.1 = 0 := by omega
      obtain ⟨q, c, rfl, hT, hcap, -⟩ := he
      have HTC := Lib.hid (tokC_all hgood (by have := HLL.out; omega))
      have hans := ans_good (f := true) HRG.out (by have := HLL.out; omega) hgood
      rw [Int.toNat_natCast] at hans
      have hne := (end_all hgood).2
      have HPG : Hid (∀ w' pt ct pn cn K, (treeT (allE l).1 d true).2.e = 0 → w.grownBy w' none → TAt w' pt (allE l).1 → (allE l).1.length ≤ ct → NodesAt w' pn (post 0 (.nd (kindR true) (treeT (allE l).1 d true).1)) K → ((allE l).1 ≠ [] → ∀ a, pt = some a → w.heap.size ≤ a.block) → (post 0 (.nd (kindR true) (treeT (allE l).1 d true).1) ≠ [] → ∀ a, pn = some a → w.heap.size ≤ a.block) → FarK (post 0 (.nd (kindR true) (treeT (allE l).1 d true).1)) K (fun k => w.heap.size ≤ k) → (post 0 (.nd (kindR true) (treeT (allE l).1 d true).1)).length ≤ 2 * (allE l).1.length → RdPost l (d : Int) true w (.returned (.tuple #[.agg #[.slice pt (allE l).1.length ct, .slice pn (post 0 (.nd (kindR true) (treeT (allE l).1 d true).1)).length cn], .agg #[.int .i64 0, .int .i64 0]])) w') := Lib.hid (fun w' pt ct pn cn K h1 h2 h3 h4 h5 h6 h7 h8 h9 => by
        refine ⟨h2, ?_⟩
        rw [hans, if_pos h1, if_neg (by decide)]
        exact ⟨pt, ct, pn, cn, K, rfl, h3, h4, h5, h6, h7, h8, h9⟩)
      have HPB : Hid (∀ w', (treeT (allE l).1 d true).2.e ≠ 0 → w.grownBy w' none → RdPost l (d : Int) true w (.returned (badV (treeT (allE l).1 d true).2.e (treeT (allE l).1 d true).2.pos)) w') := Lib.hid (fun w' h1 h2 => rd_bad (by rw [hans, if_neg h1]) h1 h2)
      obtain ⟨T, hTT⟩ : ∃ T, (allE l).1 = T := ⟨_, rfl⟩
      rw [hTT] at HPG HPB HTC hT hne hcap ⊢
      have hpos : 0 < T.length := List.length_pos_iff.2 hne
      have HPOS := Lib.hid hpos
      have htok : T[0]? = some (tokQ T startQ) := by
        unfold tokQ
        show T[0]? = some (T[0]?.getD _)
        rw [List.getElem?_eq_getElem hpos]; rfl
      have HTA := Lib.hid hT; have HNE := Lib.hid hne
      have HNB := Lib.hid (fun W h => NewBuilder_c T q c W (by have := HTC.out.len; omega) HTC.out.short h)
      have HPK := Lib.hid (fun (bb : Nat) W h => Peek_c bb T 0 [] (.slice none 0 0) (tokQ T startQ) W (by have := HTC.out.len; omega) (Nat.zero_le _) HTC.out.short (by rw [Nat.zero_min]; exact htok) h)
      have HWH := Lib.hid (fun (b bb : Nat) (W : World) h => whole_alone b bb T d HTC.out HD.out startQ [] (.slice none 0 0) (fun k => b < k) W h)
      have HDN := Lib.hid (fun (bb u : Nat) (N : List Nd) (vn : Value) W h1 h2 h3 => Done_far bb T u N vn W (by have := HTC.out.len; omega) HTC.out.short h1 h2 h3)
      have HRI : Hid (treeT T d true = aloneT T (NT T d 0).expr startQ) := Lib.hid (by unfold treeT; (first | rfl | (simp; rfl)))
      rw [HRI.out] at HPG HPB
      obtain ⟨r, hr⟩ : ∃ r, aloneT T (NT T d 0).expr startQ = r := ⟨_, rfl⟩
      rw [hr] at HPG HPB HWH
      obtain ⟨m, hm⟩ : ∃ m, T.length = m := ⟨_, rfl⟩
      have HMT := Lib.hid hm
      rw [hm] at HPG HNB ⊢
      have HT2 := Lib.hid (bx (World.grownBy_alloc w1 (.cells #[.int .i64 0, .int .i64 0] 44) none) HT1.out)
      have HF2 := Lib.hid (bx (World.grownBy_alloc w1 (.cells #[.int .i64 0, .int .i64 0] 44) none) HF1.out)
      have HG2 := Lib.hid (gb_alloc HG1.out (.cells #[.int .i64 0, .int .i64 0] 44))
      have hq9 := cells2 (heap_alloc_new w1 (.cells #[.int .i64 0, .int .i64 0] 44))
      clear hans hlx hgood hTT hT hcap hne hpos hr hm HRI htok
      go_wp2_with fail
      refine (HNB.out _ (HTA.out.kept (World.grownBy_alloc w1 _ none))).mono ?_
      rintro e w2 ⟨bb, rfl, hbb, hbld, hg2⟩
      have HG3 := Lib.hid (gb_trans HG2.out hg2)
      have HT3 := Lib.hid (bx hg2 HT2.out); have HF3 := Lib.hid (bx hg2 HF2.out)
      have HBLD := Lib.hid hbld
      obtain ⟨b, hbq⟩ : ∃ b, w2.heap.size = b := ⟨_, rfl⟩
      have HBQ := Lib.hid hbq
      have hbbb : bb < b := by
        obtain ⟨pt, ct, K, hB⟩ := hbld
        rw [← hbq]; exact hlt' hB.box
      have HBB := Lib.hid hbbb
      have HBB2 : Hid (B + 2 ≤ bb) := Lib.hid (by have h1 := HSZ1.out; have h2 : (w1.alloc (.cells #[.int .i64 0, .int .i64 0] 44)).heap.size = w1.heap.size + 1 := by simp
                                                  omega)
      obtain ⟨d0, d1, d2, d3, d4, d5, d6, d7, d8, d9, d10⟩ := cells10 (show (w2.alloc (.cells #[.pointer (some ⟨bb, 0, none⟩), .int .i64 0, .string ⟨#[]⟩, .string ⟨#[]⟩, .int .i64 0, .int .i64 (d : Int), .int .i64 0, .bool false, .int .i64 0, .int .i64 0] 100)).heap[b]? = some (.cells #[.pointer (some ⟨bb, 0, none⟩), .int .i64 0, .string ⟨#[]⟩, .string ⟨#[]⟩, .int .i64 0, .int .i64 (d : Int), .int .i64 0, .bool false, .int .i64 0, .int .i64 0] 100 (0, 0)) from by rw [← hbq]; exact heap_alloc_new w2 _)
      clear hq9 HNB hbb hbld hg2 hbbb hbq
      go_wp2_with fail
      try rw [HBQ.out]
      refine (HPK.out bb _ (HBLD.out.kept (World.grownBy_alloc w2 _ none))).mono ?_
      rintro e w3 ⟨rfl, hg3⟩
      have hini := fun (v1 v2 v3 v4 : Value) (h : (w2.alloc (.cells #[.pointer (some ⟨bb, 0, none⟩), v1, v2, v3, v4, .int .i64 (d : Int), .int .i64 0, .bool false, .int .i64 0, .int .i64 0] 100)).grownBy w3 none) => XAt.init HBQ.out HBLD.out HBB.out HPOS.out h
      have hini := hini _ _ _ _ hg3
      have HG4 := Lib.hid (gb_trans (gb_alloc HG3.out _) hg3)
      have HT4 := Lib.hid (bx hg3 (bx (World.grownBy_alloc w2 _ none) HT3.out)); have HF4 := Lib.hid (bx hg3 (bx (World.grownBy_alloc w2 _ none) HF3.out))
      have d0 := hg3.cell d0 (by simp); have d1 := hg3.cell d1 (by simp); have d2 := hg3.cell d2 (by simp); have d3 := hg3.cell d3 (by simp); have d4 := hg3.cell d4 (by simp)
      have hbx4 := bx hg3 (show (w2.alloc (.cells #[.pointer (some ⟨bb, 0, none⟩), .int .i64 0, .string ⟨#[]⟩, .string ⟨#[]⟩, .int .i64 0, .int .i64 (d : Int), .int .i64 0, .bool false, .int .i64 0, .int .i64 0] 100)).heap[b]? = some (.cells #[.pointer (some ⟨bb, 0, none⟩), .int .i64 0, .string ⟨#[]⟩, .string ⟨#[]⟩, .int .i64 0, .int .i64 (d : Int), .int .i64 0, .bool false, .int .i64 0, .int .i64 0] 100 (0, 0)) from by rw [← HBQ.out]; exact heap_alloc_new w2 _)
      obtain ⟨d0, d1, d2, d3, d4, d5, d6, d7, d8, d9, d10⟩ := cells10 hbx4
      obtain ⟨t, ht⟩ : ∃ t, tokQ T startQ = t := ⟨_, rfl⟩
      rw [ht] at hini ⊢
      unfold tokA
      unfold strV at hini ⊢
      obtain ⟨xl, hxl⟩ : ∃ xl : ByteArray, (⟨t.lead.toArray⟩ : ByteArray) = xl := ⟨_, rfl⟩
      obtain ⟨xt, hxt⟩ : ∃ xt : ByteArray, (⟨t.text.toArray⟩ : ByteArray) = xt := ⟨_, rfl⟩
      rw [hxl, hxt] at hini ⊢
      obtain ⟨tk, htk⟩ : ∃ tk, t.kind = tk := ⟨_, rfl⟩
      obtain ⟨tp, htp⟩ : ∃ tp, t.pos = tp := ⟨_, rfl⟩
      rw [htk, htp] at hini ⊢
      have HINI := Lib.hid hini
      clear hini hg3 hbx4 HPK HBLD ht hxl hxt htk htp
      go_wp2_with fail
      refine (HWH.out _ _ _ HINI.out.1).mono ?_
      rintro e w5 ⟨x, u, N', vn', rfl, hx5, hst5, hu5, hn5⟩
      have HX5 := Lib.hid hx5; have HU5 := Lib.hid hu5; have HN5 := Lib.hid hn5
      have hfar : ∀ k, k < w3.heap.size → k ≠ b → k ≠ bb → w5.heap[k]? = w3.heap[k]? := fun k h1 h2 h3 => by
        rw [hst5.fr.block k (Nat.lt_of_lt_of_le h1 HINI.out.2.size) (by rintro (e | e | e); exact h2 e; exact h3 e; cases e), HINI.out.2.block k h1 (fun e => h2 e)]
      have HT5 := Lib.hid ((hfar B (hlt' HT4.out) (by have := HBB.out; have := HBB2.out; omega) (by have := HBB2.out; omega)).trans HT4.out)
      have HF5 := Lib.hid ((hfar (B + 1) (hlt' HF4.out) (by have := HBB.out; have := HBB2.out; omega) (by have := HBB2.out; omega)).trans HF4.out)
      have HG5 : Hid (w.grownBy w5 none) := Lib.hid (Fr2.after (Fr2.after HG4.out HINI.out.2 (fun j hj => by have h1 : j = b := hj; have := HBB.out; have := HBB2.out; have := HB.out; omega)) hst5.fr (fun j hj => by have := HBB.out; have := HBB2.out; have := HB.out; rcases hj with h | h | h; omega; omega; cases h))
      obtain ⟨d0, d1, d2, d3, d4, d5, d6, d7, d8, d9, d10⟩ := cells10 hx5.box
      clear hx5 hst5 hu5 hn5 hfar HINI HWH
      by_cases hr0 : r.2.e = 0
      · have e3 : ((r.2.e : Int) != 0) = false := by rw [hr0]; rfl
        have e3' : (r.2.e != 0) = false := by rw [hr0]; rfl
        have HNS : Hid (N' = post 0 (.nd (kindR true) r.1)) := Lib.hid (by rw [HN5.out hr0]; simp [posts, kindR])
        have HR0 := Lib.hid hr0
        have hlen : N'.length ≤ 100000 := by have h1 := HX5.out.few; have h2 := HU5.out; have h3 := HTC.out.len; omega
        have HDD := Lib.hid (HDN.out bb u N' vn' w5 hlen (fun y hy => by rw [HNS.out] at hy hlen; exact Nat.le_trans (kids_room _ _ _ hy) hlen) HX5.out.bld.bld)
        rw [hr0] at d8
        clear hr0 hlen HDN
        go_wp2_with fail
        refine HDD.out.mono ?_
        rintro e w6 ⟨hg6, pt, ct, pn, cn, K, rfl, hta, hct, hna, hf1, hf2, hf3⟩
        have HT6 := Lib.hid (bx hg6 HT5.out); have HF6 := Lib.hid (bx hg6 HF5.out)
        have HG6 := Lib.hid (gb_trans HG5.out hg6)
        rw [HNS.out] at hna hf2 hf3 ⊢
        obtain ⟨hp1, hp2, hpf⟩ := put4 HT6.out HF6.out (.slice pt T.length ct) (.slice pn (post 0 (.nd (kindR true) r.1)).length cn) (.int .i64 0) (.int .i64 0)
        have hB5 : B + 2 ≤ w5.heap.size := by have := hlt' HF5.out; omega
        have hta2 := hta.keptF hpf (fun h0 a ha e => by have := hf1 h0 a ha; rcases e with e | e <;> omega)
        have hna2 : NodesAt ((((w6.setCell ⟨B, 0, none⟩ (.slice pt T.length ct)).setCell ⟨B, 1, none⟩ (.slice pn (post 0 (.nd (kindR true) r.1)).length cn)).setCell ⟨B + 1, 0, none⟩ (.int .i64 0)).setCell ⟨B + 1, 1, none⟩ (.int .i64 0)) pn (post 0 (.nd (kindR true) r.1)) K := ⟨GAt.keptB hna.1 hpf (fun h0 a ha e => by have := hf2 (fun h => h0 (by rw [h]; rfl)) a ha; rcases e with e | e <;> omega), fun i y hy => (hna.2 i y hy).keptF hpf (fun h0 a ha e => by have := hf3 i y hy (intsV_ne h0) a ha; rcases e with e | e <;> omega)⟩
        have HQ := Lib.hid (HPG.out _ pt ct pn cn K HR0.out (Fr2.after HG6.out hpf (fun j hj => by have := HB.out; rcases hj with h | h <;> omega)) hta2 (by rw [← HMT.out]; exact hct) hna2 (fun h0 a ha => Nat.le_trans HG5.out.size (hf1 h0 a ha)) (fun h0 a ha => Nat.le_trans HG5.out.size (hf2 h0 a ha)) (fun i y hy hn a ha => Nat.le_trans HG5.out.size (hf3 i y hy hn a ha)) (by rw [← HNS.out, ← HMT.out]; have h1 := HX5.out.few; have h2 := HU5.out; omega))
        obtain ⟨t0, t1, t2⟩ := cells2 HT6.out
        obtain ⟨f0, f1, f2⟩ := cells2 HF6.out
        obtain ⟨k0, k1, -⟩ := cells2 hp1
        obtain ⟨m0, m1, -⟩ := cells2 hp2
        rw [HMT.out] at k0 k1 m0 m1 HQ ⊢
        clear hp1 hp2 hpf hta hct hna hf1 hf2 hf3 hta2 hna2 hg6 d0 d1 d2 d3 d4 d5 d6 d7 d8 d9 d10 hB5
        go_wp2_with fail
        refine bodyPost_ret (v := .tuple #[.agg #[.slice pt m ct, .slice pn (post 0 (.nd (kindR true) r.1)).length cn], .agg #[.int .i64 0, .int .i64 0]]) (by simp [results, Tryz.results17, go_sem, k0, k1, m0, m1]) rfl HQ.out
      · have e3 : ((r.2.e : Int) != 0) = true := bne_iff_ne.2 (by omega)
        have e3' : (r.2.e != 0) = true := bne_iff_ne.2 hr0
        have HR0 := Lib.hid hr0
        obtain ⟨E, hE⟩ : ∃ E, r.2.e = E := ⟨_, rfl⟩
        obtain ⟨P, hP⟩ : ∃ P, r.2.pos = P := ⟨_, rfl⟩
        rw [hE] at e3 e3' d8
        rw [hP] at d9
        rw [hE, hP] at HPB
        obtain ⟨t0, t1, t2⟩ := cells2 HT5.out
        obtain ⟨f0, f1, f2⟩ := cells2 HF5.out
        have HRE : Hid (E ≠ 0) := Lib.hid (by rw [← hE]; exact hr0)
        clear hr0 HR0 hE hP d0 d1 d2 d3 d4 d5 d6 d7 HDN HPG
        go_wp2_with fail
        go_region
        all_goals
          obtain ⟨hp1, hp2, hpf⟩ := put4 HT5.out HF5.out (.slice none 0 0) (.slice none 0 0) (.int .i64 (E : Int)) (.int .i64 (P : Int))
          obtain ⟨k0, k1, -⟩ := cells2 (bx (gb_drew (gb_refl _ none)) hp1)
          obtain ⟨m0, m1, -⟩ := cells2 (bx (gb_drew (gb_refl _ none)) hp2)
          have HQ := Lib.hid (HPB.out _ HRE.out (gb_drew (Fr2.after HG5.out hpf (fun j hj => by have := HB.out; rcases hj with h | h <;> omega))))
          clear hp1 hp2 hpf t0 t1 t2 f0 f1 f2 d8 d9 d10
          go_wp2_with fail
          refine bodyPost_ret (v := badV E P) (by simp [results, Tryz.results17, go_sem, k0, k1, m0, m1, badV]) rfl HQ.out

set_option maxRecDepth 100000 in
set_option maxHeartbeats 8000000 in
theorem Formula_p (s : ByteArray) (D : Int) (w : World) (hs : s.size ≤ 25000) (hla : LaidE w) : Calls Tryz.prog 7 #[.string s, .int .i64 D] w (RdPost s.data.toList D true w) := by
  obtain ⟨B, hB⟩ : ∃ B, w.heap.size = B := ⟨_, rfl⟩
  have HB := Lib.hid hB
  have HG0 : Hid (w.grownBy ((w.alloc (.cells #[.slice none 0 0, .slice none 0 0] 42)).alloc (.cells #[.int .i64 0, .int .i64 0] 44)) none) := Lib.hid (gb_alloc (gb_alloc (gb_refl _ _) _) _)
  have HT1 : Hid (((w.alloc (.cells #[.slice none 0 0, .slice none 0 0] 42)).alloc (.cells #[.int .i64 0, .int .i64 0] 44)).heap[B]? = some (.cells #[.slice none 0 0, .slice none 0 0] 42 (0, 0))) := Lib.hid (by rw [← hB]; exact bx (World.grownBy_alloc _ _ none) (heap_alloc_new w _))
  have HF1 : Hid (((w.alloc (.cells #[.slice none 0 0, .slice none 0 0] 42)).alloc (.cells #[.int .i64 0, .int .i64 0] 44)).heap[B + 1]? = some (.cells #[.int .i64 0, .int .i64 0] 44 (0, 0))) := Lib.hid (by
    have h9 := heap_alloc_new (w.alloc (.cells #[.slice none 0 0, .slice none 0 0] 42)) (.cells #[.int .i64 0, .int .i64 0] 44)
    rw [show (w.alloc (.cells #[.slice none 0 0, .slice none 0 0] 42)).heap.size = B + 1 by simp [hB]] at h9
    exact h9)
  have HSZ : Hid (((w.alloc (.cells #[.slice none 0 0, .slice none 0 0] 42)).alloc (.cells #[.int .i64 0, .int .i64 0] 44)).heap.size = B + 2) := Lib.hid (by simp [hB])
  have HRD := Lib.hid (fun W h => read_alone s D W hs h)
  have HLA := Lib.hid (hla.kept HG0.out)
  obtain ⟨l, hl⟩ : ∃ l, s.data.toList = l := ⟨_, rfl⟩
  rw [hl] at HRD ⊢
  clear hs hla hl
  go_enter Tryz.func7, Tryz.ntmps7
  go_wp2_with fail
  try rw [hB]
  refine (HRD.out _ HLA.out).mono ?_
  rintro e w1 ⟨hg1, he⟩
  have HT2 := Lib.hid (bx hg1 HT1.out); have HF2 := Lib.hid (bx hg1 HF1.out)
  have HG1 := Lib.hid (gb_trans HG0.out hg1)
  obtain ⟨t0, t1, t2⟩ := cells2 HT2.out
  obtain ⟨f0, f1, f2⟩ := cells2 HF2.out
  clear hg1 HRD HLA hB
  by_cases hne : (ansQ l D true).2.1 ≠ 0
  · rw [if_pos hne] at he
    subst he
    have HPB : Hid (∀ w', w.grownBy w' none → RdPost l D true w (.returned (badV (ansQ l D true).2.1 (ansQ l D true).2.2)) w') := Lib.hid (fun w' hg => rd_bad rfl hne hg)
    obtain ⟨E, hE⟩ : ∃ E, (ansQ l D true).2.1 = E := ⟨_, rfl⟩
    obtain ⟨P, hP⟩ : ∃ P, (ansQ l D true).2.2 = P := ⟨_, rfl⟩
    rw [hE, hP] at HPB ⊢
    unfold badV
    obtain ⟨hp1, hp2, hpf⟩ := put4 HT2.out HF2.out (.slice none 0 0) (.slice none 0 0) (.int .i64 (E : Int)) (.int .i64 (P : Int))
    obtain ⟨k0, k1, -⟩ := cells2 hp1
    obtain ⟨m0, m1, -⟩ := cells2 hp2
    have HQ := Lib.hid (HPB.out _ (Fr2.after HG1.out hpf (fun j hj => by have := HB.out; rcases hj with h | h <;> omega)))
    clear hp1 hp2 hpf hE hP hne
    go_wp2_with fail
    refine bodyPost_ret (v := badV E P) (by simp [results, Tryz.results7, go_sem, k0, k1, m0, m1, badV]) rfl HQ.out
  · rw [if_neg hne] at he
    obtain ⟨pt, ct, pn, cn, K, rfl, hta, hct, hna, hf1, hf2, hf3, hf4⟩ := he
    obtain ⟨hp1, hp2, hpf⟩ := put4 HT2.out HF2.out (.slice pt (allE l).1.length ct) (.slice pn (nodesQ l D true).length cn) (.int .i64 0) (.int .i64 0)
    have hsz := HSZ.out
    have hgb := Fr2.after HG1.out hpf (fun j hj => by have := HB.out; rcases hj with h | h <;> omega)
    have hq : RdPost l D true w (.returned (.tuple #[.agg #[.slice pt (allE l).1.length ct, .slice pn (nodesQ l D true).length cn], .agg #[.int .i64 0, .int .i64 0]])) ((((w1.setCell ⟨B, 0, none⟩ (.slice pt (allE l).1.length ct)).setCell ⟨B, 1, none⟩ (.slice pn (nodesQ l D true).length cn)).setCell ⟨B + 1, 0, none⟩ (.int .i64 0)).setCell ⟨B + 1, 1, none⟩ (.int .i64 0)) := by
      refine ⟨hgb, ?_⟩
      rw [if_neg hne]
      have hb := HB.out
      exact ⟨pt, ct, pn, cn, K, rfl, hta.keptF hpf (fun h0 a ha e => by have := hf1 h0 a ha; rcases e with e | e <;> omega), hct, ⟨GAt.keptB hna.1 hpf (fun h0 a ha e => by have := hf2 (fun h => h0 (by rw [h]; rfl)) a ha; rcases e with e | e <;> omega), fun i y hy => (hna.2 i y hy).keptF hpf (fun h0 a ha e => by have := hf3 i y hy (intsV_ne h0) a ha; rcases e with e | e <;> omega)⟩, fun h0 a ha => by have := hf1 h0 a ha; omega, fun h0 a ha => by have := hf2 h0 a ha; omega, fun i y hy hn a ha => by have := hf3 i y hy hn a ha; omega, hf4⟩
    obtain ⟨k0, k1, -⟩ := cells2 hp1
    obtain ⟨m0, m1, -⟩ := cells2 hp2
    have HQ := Lib.hid hq
    clear hp1 hp2 hpf hsz hgb hq hta hct hna hf1 hf2 hf3 hf4 hne
    obtain ⟨m, hm⟩ : ∃ m, (allE l).1.length = m := ⟨_, rfl⟩
    obtain ⟨M, hM⟩ : ∃ M, (nodesQ l D true).length = M := ⟨_, rfl⟩
    rw [hm, hM] at k0 k1 m0 m1 HQ ⊢
    clear hm hM
    go_wp2_with fail
    refine bodyPost_ret (v := .tuple #[.agg #[.slice pt m ct, .slice pn M cn], .agg #[.int .i64 0, .int .i64 0]]) (by simp [results, Tryz.results7, go_sem, k0, k1, m0, m1]) rfl HQ.out
end Go.Proofs.YtddccnpohpaofaaGreatDoor
