/- Lemmas. -/
import Derived.Test.YtddccnpohpaofaaGreatDoorP13
import Derived.Test.YtddccnpohpaofaaGreatDoorP29
set_option linter.unusedVariables false
set_option linter.unusedSimpArgs false
namespace Go.Proofs.YtddccnpohpaofaaGreatDoor
open Go.RowKit

theorem nat_beq (n k : Nat) : ((n : Int) == (k : Int)) = decide (n = k) := by
  by_cases h : n = k
  · subst h; simp
  · rw [decide_eq_false h]; exact beq_eq_false_iff_ne.2 (by omega)
theorem nat_ble (n k : Nat) : decide ((n : Int) ≤ (k : Int)) = decide (n ≤ k) := by
  by_cases h : n ≤ k
  · rw [decide_eq_true h]; exact decide_eq_true (by omega)
  · rw [decide_eq_false h]; exact decide_eq_false (by omega)
def inB (op : Int) (n : Nat) : Bool := decide (1 ≤ op) && decide (op ≤ 24) && countB op n

set_option maxRecDepth 100000 in
set_option maxHeartbeats 16000000 in
theorem rightCount_c (op : Int) (n : Nat) (w : World) : Calls Tryz.prog 91 #[.int .i64 op, .int .i64 n] w (TruePost (inB op n) w) := by
  by_cases hA : 1 ≤ op ∧ op ≤ 4
  · have hb : inB op n = ((n : Int) == 0) := by
      rw [show (0 : Int) = ((0 : Nat) : Int) from rfl, nat_beq]; unfold inB countB
      rw [decide_eq_true hA.1, decide_eq_true (by omega : op ≤ 24), if_pos hA.2]; rfl
    rw [hb]
    have hop : op = 1 ∨ op = 2 ∨ op = 3 ∨ op = 4 := by omega
    clear hb hA
    rcases hop with rfl | rfl | rfl | rfl
    all_goals
      go_enter Tryz.func91, Tryz.ntmps91
      go_wp2
      go_ret
      exact ⟨rfl, gb_refl _ _⟩
  by_cases hB : op = 5 ∨ op = 6
  · have hb : inB op n = ((n : Int) == 1) := by
      rw [show (1 : Int) = ((1 : Nat) : Int) from rfl, nat_beq]; unfold inB countB
      rw [decide_eq_true (by omega : 1 ≤ op), decide_eq_true (by omega : op ≤ 24), if_neg (by omega), if_pos (by omega)]; rfl
    rw [hb]
    clear hb hA
    rcases hB with rfl | rfl
    all_goals
      go_enter Tryz.func91, Tryz.ntmps91
      go_wp2
      go_ret
      exact ⟨rfl, gb_refl _ _⟩
  by_cases hC : op = 21
  · subst hC
    have hb : inB 21 n = ((n : Int) == 3) := by
      rw [show (3 : Int) = ((3 : Nat) : Int) from rfl, nat_beq]; rfl
    rw [hb]
    clear hb hA hB
    go_enter Tryz.func91, Tryz.ntmps91
    go_wp2
    go_ret
    exact ⟨rfl, gb_refl _ _⟩
  by_cases hD : op = 24
  · subst hD
    have hb : inB 24 n = decide ((n : Int) ≤ 8) := by
      rw [show (8 : Int) = ((8 : Nat) : Int) from rfl, nat_ble]; rfl
    rw [hb]
    clear hb hA hB hC
    go_enter Tryz.func91, Tryz.ntmps91
    go_wp2
    go_ret
    exact ⟨rfl, gb_refl _ _⟩
  have e1 : (op == 1) = false := beq_eq_false_iff_ne.2 (by omega)
  have e2 : (op == 2) = false := beq_eq_false_iff_ne.2 (by omega)
  have e3 : (op == 3) = false := beq_eq_false_iff_ne.2 (by omega)
  have e4 : (op == 4) = false := beq_eq_false_iff_ne.2 (by omega)
  have e5 : (op == 5) = false := beq_eq_false_iff_ne.2 (by omega)
  have e6 : (op == 6) = false := beq_eq_false_iff_ne.2 (by omega)
  have e21 : (op == 21) = false := beq_eq_false_iff_ne.2 hC
  have e24 : (op == 24) = false := beq_eq_false_iff_ne.2 hD
  by_cases hE : 6 < op ∧ op < 24
  · have hb : inB op n = ((n : Int) == 2) := by
      rw [show (2 : Int) = ((2 : Nat) : Int) from rfl, nat_beq]; unfold inB countB
      rw [decide_eq_true (by omega : 1 ≤ op), decide_eq_true (by omega : op ≤ 24), if_neg (by omega), if_neg (by omega), if_pos (by omega)]; rfl
    rw [hb]
    have d1 : decide (6 < op) = true := decide_eq_true hE.1
    have d2 : decide (op < 24) = true := decide_eq_true hE.2
    clear hb hA hB hC hD hE
    go_enter Tryz.func91, Tryz.ntmps91
    go_wp2
    go_ret
    exact ⟨rfl, gb_refl _ _⟩
  · have hb : inB op n = false := by
      unfold inB
      by_cases h1 : 1 ≤ op
      · rw [decide_eq_false (by omega : ¬ op ≤ 24)]; simp
      · rw [decide_eq_false h1]; rfl
    rw [hb]
    by_cases h6 : 6 < op
    · have d1 : decide (6 < op) = true := decide_eq_true h6
      have d2 : decide (op < 24) = false := decide_eq_false (by omega)
      clear hb hA hB hC hD hE h6
      go_enter Tryz.func91, Tryz.ntmps91
      go_wp2
      go_ret
      exact ⟨rfl, gb_refl _ _⟩
    · have d1 : decide (6 < op) = false := decide_eq_false h6
      clear hb hA hB hC hD hE h6
      go_enter Tryz.func91, Tryz.ntmps91
      go_wp2
      go_ret
      exact ⟨rfl, gb_refl _ _⟩
/-- What is answered: a number, all memory as it was. -/
def NumPost (n : Int) (w : World) (e : Ending) (w' : World) : Prop := e = .returned (.int .i64 n) ∧ w.grownBy w' none
theorem ops_of {op : Int} (h1 : 1 ≤ op) (h2 : op ≤ 24) : op = 1 ∨ op = 2 ∨ op = 3 ∨ op = 4 ∨ op = 5 ∨ op = 6 ∨ op = 7 ∨ op = 8 ∨ op = 9 ∨ op = 10 ∨ op = 11 ∨ op = 12 ∨ op = 13 ∨ op = 14 ∨ op = 15 ∨ op = 16 ∨ op = 17 ∨ op = 18 ∨ op = 19 ∨ op = 20 ∨ op = 21 ∨ op = 22 ∨ op = 23 ∨ op = 24 := by omega
set_option maxRecDepth 100000 in
set_option maxHeartbeats 16000000 in
theorem level_c (op : Int) (h1 : 1 ≤ op) (h2 : op ≤ 24) (w : World) : Calls Tryz.prog 94 #[.int .i64 op] w (NumPost (levS op) w) := by
  have h := ops_of h1 h2
  clear h1 h2
  rcases h with rfl | rfl | rfl | rfl | rfl | rfl | rfl | rfl | rfl | rfl | rfl | rfl | rfl | rfl | rfl | rfl | rfl | rfl | rfl | rfl | rfl | rfl | rfl | rfl
  all_goals
    go_enter Tryz.func94, Tryz.ntmps94
    go_wp2
    go_ret
    exact ⟨rfl, gb_refl _ _⟩
set_option maxRecDepth 100000 in
set_option maxHeartbeats 16000000 in
theorem sides_c (l : Nat) (hl : l ≤ 9) (w : World) : Calls Tryz.prog 135 #[.int .i64 (l : Int)] w (fun e w' => e = .returned (.tuple #[.int .i64 (sideA l : Nat), .int .i64 (sideB l : Nat)]) ∧ w.grownBy w' none) := by
  have h : l = 0 ∨ l = 1 ∨ l = 2 ∨ l = 3 ∨ l = 4 ∨ l = 5 ∨ l = 6 ∨ l = 7 ∨ l = 8 ∨ l = 9 := by omega
  clear hl
  rcases h with rfl | rfl | rfl | rfl | rfl | rfl | rfl | rfl | rfl | rfl
  all_goals
    go_enter Tryz.func135, Tryz.ntmps135
    go_wp2
    go_ret2
    exact ⟨rfl, gb_refl _ _⟩

theorem emp_dec (l : List UInt8) : l.isEmpty = decide (l = []) := by cases l <;> simp
set_option maxRecDepth 100000 in
set_option maxHeartbeats 16000000 in
theorem names_plain (op : Int) (hop : op = 3 ∨ op = 22) (a : Addr) (nm md : List UInt8) (w : World) (hla : LaidE w) (h0 : w.cell? a = some (.int .i64 op)) (g off : Nat) (ha : a = ⟨g, off, none⟩) (c1 : w.cell? ⟨g, off + 1, none⟩ = some (.string ⟨nm.toArray⟩)) (c2 : w.cell? ⟨g, off + 2, none⟩ = some (.string ⟨md.toArray⟩)) (h1 : nm.length ≤ 60000) :
    Calls Tryz.prog 92 #[.pointer (some a)] w (TruePost (plainB nm && decide (md = [])) w) := by
  subst ha
  have HN := Lib.hid (fun W h => Plain_c ⟨nm.toArray⟩ W (by show nm.length ≤ 60000; exact h1) h)
  have HLA := Lib.hid hla
  have e1 := emp_dec md
  obtain ⟨b1, hb1⟩ : ∃ b, plainB nm = b := ⟨_, rfl⟩
  obtain ⟨b2, hb2⟩ : ∃ b, decide (md = []) = b := ⟨_, rfl⟩
  have HB1 := Lib.hid hb1
  rw [hb2] at e1
  rw [hb1, hb2]
  clear hla h1 hb1 hb2
  have HC2 := Lib.hid c2
  rcases hop with rfl | rfl
  all_goals
    go_enter Tryz.func92, Tryz.ntmps92
    go_wp2_with (go_at_call 114; refine (HN.out _ HLA.out).mono ?_; rintro e w1 ⟨rfl, hg⟩; have HG := Lib.hid hg; have c2 := hg.cell HC2.out (by simp); rw [HB1.out]; clear hg; cases b1)
    all_goals
      go_wp2_with fail
      go_ret
      exact ⟨by simp, HG.out⟩
set_option maxRecDepth 100000 in
set_option maxHeartbeats 16000000 in
theorem names_call (a : Addr) (nm md : List UInt8) (w : World) (hla : LaidE w) (h0 : w.cell? a = some (.int .i64 24)) (g off : Nat) (ha : a = ⟨g, off, none⟩) (c1 : w.cell? ⟨g, off + 1, none⟩ = some (.string ⟨nm.toArray⟩)) (c2 : w.cell? ⟨g, off + 2, none⟩ = some (.string ⟨md.toArray⟩)) (h1 : nm.length ≤ 60000) (h2 : md.length ≤ 60000) :
    Calls Tryz.prog 92 #[.pointer (some a)] w (TruePost (plainB nm && (decide (md = []) || plainB md)) w) := by
  subst ha
  have HN := Lib.hid (fun W h => Plain_c ⟨nm.toArray⟩ W (by show nm.length ≤ 60000; exact h1) h)
  have HM := Lib.hid (fun W h => Plain_c ⟨md.toArray⟩ W (by show md.length ≤ 60000; exact h2) h)
  have HLA := Lib.hid hla
  have e1 := emp_dec md
  obtain ⟨b1, hb1⟩ : ∃ b, plainB nm = b := ⟨_, rfl⟩
  obtain ⟨b2, hb2⟩ : ∃ b, decide (md = []) = b := ⟨_, rfl⟩
  obtain ⟨b3, hb3⟩ : ∃ b, plainB md = b := ⟨_, rfl⟩
  have HB1 := Lib.hid hb1
  have HB3 := Lib.hid hb3
  rw [hb2] at e1
  rw [hb1, hb2, hb3]
  clear hla h1 h2 hb1 hb2 hb3
  have HC2 := Lib.hid c2
  cases b2
  · go_enter Tryz.func92, Tryz.ntmps92
    go_wp2_with fail
    refine (HN.out _ HLA.out).mono ?_
    rintro e w1 ⟨rfl, hg⟩
    have HG := Lib.hid hg
    have c2 := hg.cell HC2.out (by simp)
    rw [HB1.out]
    clear hg
    cases b1
    · go_wp2_with fail
      go_ret
      exact ⟨by simp, HG.out⟩
    · go_wp2_with fail
      refine (HM.out _ (HLA.out.kept HG.out)).mono ?_
      rintro e w2 ⟨rfl, hg2⟩
      have HG2 := Lib.hid hg2
      rw [HB3.out]
      clear hg2
      go_wp2_with fail
      go_ret
      exact ⟨by simp, gb_trans HG.out HG2.out⟩
  · go_enter Tryz.func92, Tryz.ntmps92
    go_wp2_with fail
    refine (HN.out _ HLA.out).mono ?_
    rintro e w1 ⟨rfl, hg⟩
    have HG := Lib.hid hg
    have c2 := hg.cell HC2.out (by simp)
    rw [HB1.out]
    clear hg
    cases b1
    all_goals
      go_wp2_with fail
      go_ret
      exact ⟨by simp, HG.out⟩
set_option maxRecDepth 100000 in
set_option maxHeartbeats 16000000 in
theorem names_none (op : Int) (hop : op ≠ 3 ∧ op ≠ 22 ∧ op ≠ 24) (a : Addr) (nm md : List UInt8) (w : World) (h0 : w.cell? a = some (.int .i64 op)) (g off : Nat) (ha : a = ⟨g, off, none⟩) (c1 : w.cell? ⟨g, off + 1, none⟩ = some (.string ⟨nm.toArray⟩)) (c2 : w.cell? ⟨g, off + 2, none⟩ = some (.string ⟨md.toArray⟩)) :
    Calls Tryz.prog 92 #[.pointer (some a)] w (TruePost (decide (nm = []) && decide (md = [])) w) := by
  subst ha
  have e1 := emp_dec md
  have e2 := emp_dec nm
  obtain ⟨b1, hb1⟩ : ∃ b, decide (nm = []) = b := ⟨_, rfl⟩
  obtain ⟨b2, hb2⟩ : ∃ b, decide (md = []) = b := ⟨_, rfl⟩
  rw [hb2] at e1
  rw [hb1] at e2
  rw [hb1, hb2]
  have d3 : (op == 3) = false := beq_eq_false_iff_ne.2 hop.1
  have d22 : (op == 22) = false := beq_eq_false_iff_ne.2 hop.2.1
  have d24 : (op == 24) = false := beq_eq_false_iff_ne.2 hop.2.2
  clear hb1 hb2 hop
  cases b1
  all_goals
    go_enter Tryz.func92, Tryz.ntmps92
    go_wp2_with fail
    go_ret
    exact ⟨by simp, gb_refl _ _⟩
/-- Its names alone: as the document says. -/
theorem rightNames_c (F : Nat → Prop) (a : Addr) (op : Int) (nm md : List UInt8) (nu : Int) (ys : Bool) (ks : List Sx) (ps : Int) (q : List Value) (w : World) (hla : LaidE w) (hc : CAt w a q) (hx : SAt F w (.mk op nm md nu ys ks ps) q) (h1 : nm.length ≤ 60000) (h2 : md.length ≤ 60000) :
    Calls Tryz.prog 92 #[.pointer (some a)] w (TruePost (namesB op nm md) w) := by
  simp only [SAt] at hx
  obtain ⟨s, pw, nw, cw, pk, ck, rows, rfl, -⟩ := hx
  obtain ⟨g, off, rfl, hg, hc⟩ := hc
  have c0 := hc 0 _ rfl
  have c1 := hc 1 _ rfl
  have c2 := hc 2 _ rfl
  rw [Nat.add_zero] at c0
  unfold strV at *
  unfold namesB
  by_cases hA : op = 3 ∨ op = 22
  · rw [if_pos hA]; exact names_plain op hA _ nm md w hla c0 g off rfl c1 c2 h1
  · rw [if_neg hA]
    by_cases hB : op = 24
    · rw [if_pos hB]; subst hB; exact names_call _ nm md w hla c0 g off rfl c1 c2 h1 h2
    · rw [if_neg hB]; exact names_none op ⟨fun e => hA (.inl e), fun e => hA (.inr e), hB⟩ _ nm md w c0 g off rfl c1 c2

def grpT (T : List Tok) (nt : NxT) (s : St) : RT := ([.nd 12 ((leafT T s).1 ++ (nt.expr (leafT T s).2).1 ++ (mustT T [41] (nt.expr (leafT T s).2).2).1)], (mustT T [41] (nt.expr (leafT T s).2).2).2)
section
variable {T : List Tok} {nt : NxT} {s : St}
theorem atom_num (h : s.e = 0 ∧ (tokQ T s).kind = 3) : atomT T nt s = ([.nd 15 (leafT T s).1], (leafT T s).2) := by
  unfold atomT; rw [if_neg (by omega), if_pos h.2]
theorem tf_iff : ((isQ T [116, 114, 117, 101] s || isQ T [102, 97, 108, 115, 101] s) = true) ↔ (isQ T [116, 114, 117, 101] s = true ∨ isQ T [102, 97, 108, 115, 101] s = true) := Bool.or_eq_true_iff
theorem tf_no (h : (isQ T [116, 114, 117, 101] s || isQ T [102, 97, 108, 115, 101] s) = false) : ¬ (isQ T [116, 114, 117, 101] s = true ∨ isQ T [102, 97, 108, 115, 101] s = true) := fun e => by rw [tf_iff.2 e] at h; cases h
theorem atom_truth (h1 : ¬ (s.e = 0 ∧ (tokQ T s).kind = 3)) (h2 : (isQ T [116, 114, 117, 101] s || isQ T [102, 97, 108, 115, 101] s) = true) (he : s.e = 0) : atomT T nt s = ([.nd 16 (leafT T s).1], (leafT T s).2) := by
  unfold atomT; rw [if_neg (by omega), if_neg (fun e => h1 ⟨he, e⟩), if_pos (tf_iff.1 h2)]
theorem atom_res (he : s.e = 0) (h1 : ¬ (s.e = 0 ∧ (tokQ T s).kind = 3)) (h2 : (isQ T [116, 114, 117, 101] s || isQ T [102, 97, 108, 115, 101] s) = false) (h3 : s.inn = true ∧ isQ T [114, 101, 115] s = true) : atomT T nt s = ([.nd 17 (leafT T s).1], (leafT T s).2) := by
  unfold atomT; rw [if_neg (by omega), if_neg (fun e => h1 ⟨he, e⟩), if_neg (tf_no h2), if_pos h3]
theorem atom_grp (h1 : ¬ (s.e = 0 ∧ (tokQ T s).kind = 3)) (h2 : (isQ T [116, 114, 117, 101] s || isQ T [102, 97, 108, 115, 101] s) = false) (h3 : ¬ (s.inn = true ∧ isQ T [114, 101, 115] s = true)) (h4 : isQ T [40] s = true) : atomT T nt s = grpT T nt s := by
  have he := (is_kind h4).2
  unfold atomT; rw [if_neg (by omega), if_neg (fun e => h1 ⟨he, e⟩), if_neg (tf_no h2), if_neg h3, if_pos h4]; rfl
theorem atom_name (he : s.e = 0) (h1 : ¬ (s.e = 0 ∧ (tokQ T s).kind = 3)) (h2 : (isQ T [116, 114, 117, 101] s || isQ T [102, 97, 108, 115, 101] s) = false) (h3 : ¬ (s.inn = true ∧ isQ T [114, 101, 115] s = true)) (h4 : isQ T [40] s = false) (h5 : (tokQ T s).kind = 1) : atomT T nt s = nameT T nt s := by
  unfold atomT; rw [if_neg (by omega), if_neg (fun e => h1 ⟨he, e⟩), if_neg (tf_no h2), if_neg h3, if_neg (by rw [h4]; decide), if_pos h5]
theorem atom_none (h1 : ¬ (s.e = 0 ∧ (tokQ T s).kind = 3)) (h2 : (isQ T [116, 114, 117, 101] s || isQ T [102, 97, 108, 115, 101] s) = false) (h3 : ¬ (s.inn = true ∧ isQ T [114, 101, 115] s = true)) (h4 : isQ T [40] s = false) (h5 : ¬ (s.e = 0 ∧ (tokQ T s).kind = 1)) : Eqv ([], failQ T 22 s) (atomT T nt s) := by
  unfold atomT
  by_cases he : s.e ≠ 0
  · rw [if_pos he, fail_same T he]; exact Eqv.refl _
  · have he0 : s.e = 0 := by omega
    rw [if_neg he, if_neg (fun e => h1 ⟨he0, e⟩), if_neg (tf_no h2), if_neg h3, if_neg (by rw [h4]; decide), if_neg (fun e => h5 ⟨he0, e⟩)]; exact Eqv.refl _
end
end Go.Proofs.YtddccnpohpaofaaGreatDoor
namespace Go.Proofs.YtddccnpohpaofaaGreatDoor
open Go.RowKit

section
variable (b bb : Nat) (T : List Tok) (D n : Nat)

set_option maxRecDepth 100000 in
set_option maxHeartbeats 4000000 in
theorem formula_p (hC : TokC T) (hD : D ≤ 200) (hn : n ≤ D) (hA : SubI b bb T D n (fun _ => True) 74 (orT T D n (NT T D n))) (hB : n < D → SubI b bb T D (n + 1) (fun _ => True) 44 (formulaT T D (n + 1) (NT T D (n + 1)))) : SubI b bb T D n (fun _ => True) 44 (formulaT T D n (NT T D n)) := by
  intro s N vn A w hP h
  have HCC := Lib.hid hC; have HPP := Lib.hid hP
  have HSA := Lib.hid hA
  have HNB := Lib.hid (nested_formula b bb T D n hD hn (fun _ => True) _ hB)
  have HEQ := Lib.hid (fun s hk => form_eqv T hn (sub := formulaT T D (n + 1) (NT T D (n + 1))) (nt := NT T D n) (fun hlt => by rw [NT_succ T hlt]) s hk)
  have HK := Lib.hid (KX.start h)
  have HFEW := Lib.hid h.few
  have HA := Lib.hid (OutL.nil N s)
  clear h hC hP hD hn hA hB
  go_enter Tryz.func44, Tryz.ntmps44
  go_wp2_with fail
  refine (HK.out.sub HSA.out trivial).mono ?_
  rintro e w9 ⟨v9, N9, vn9, rfl, hk9, ho9, hd9⟩
  have HK := Lib.hid hk9; have HO := Lib.hid ho9; have HA := Lib.hid ho9.out; have HDD := Lib.hid hd9
  clear hk9 ho9 hd9
  go_wp2_with fail
  refine (KX.at (ws := [[61, 62]]) (HK.out.strs1 _ _) (List.mem_cons_self ..) (by decide)).mono ?_
  rintro e w1 ⟨rfl, hk⟩
  have HK := Lib.hid (hk.nils)
  obtain ⟨b1, hb⟩ : ∃ b1, isQ T [61, 62] (orT T D n (NT T D n) s).2 = b1 := ⟨_, rfl⟩
  rw [at_one HCC.out (by decide), hb]
  have HV1 := Lib.hid hb
  clear hk hb
  cases b1
  · have HQ := Lib.hid (KX.fin HO.out HK.out HDD.out (r' := formulaT T D n (NT T D n) s) (by rw [show formulaT T D n (NT T D n) s = orT T D n (NT T D n) s from if_neg (by rw [HV1.out]; decide)]; exact Eqv.refl _))
    go_wp2_with fail
    go_ret
    exact HQ.out
  · skip
    have HLI := Lib.hid (is_kind HV1.out)
    go_wp2_with fail
    have HK := Lib.hid HK.out.drew
    go_region_held3 (fun w' => w'.cell? ⟨b, 0, none⟩ = some (.pointer (some ⟨bb, 0, none⟩))) (first | with_reducible exact HK.out.cell | with_reducible exact (HK.out.alloc _).cell | with_reducible exact ((HK.out.alloc _).alloc _).cell | with_reducible exact (((HK.out.alloc _).alloc _).alloc _).cell)
      (first
        | (go_at_call 76; (first | with_reducible refine (HK.out.take HCC.out HLI.out.1 HLI.out.2).mono ?_ | with_reducible refine ((HK.out.strs1 _ _).take HCC.out HLI.out.1 HLI.out.2).mono ?_ | with_reducible refine (((HK.out.strs1 _ _).strs1 _ _).take HCC.out HLI.out.1 HLI.out.2).mono ?_); rintro e w9 ⟨v9, N9, vn9, rfl, hk9, ho9, hd9⟩; have HK := Lib.hid hk9; have HD := Lib.hid (OutD.app HA.out ho9 hd9); have HA := Lib.hid HD.out.out; clear hk9 ho9 hd9)
        | (go_at_call 43; (first | with_reducible refine (HK.out.call (fun A h => HNB.out _ _ _ A _ trivial h)).mono ?_ | with_reducible refine ((HK.out.strs1 _ _).call (fun A h => HNB.out _ _ _ A _ trivial h)).mono ?_ | with_reducible refine (((HK.out.strs1 _ _).strs1 _ _).call (fun A h => HNB.out _ _ _ A _ trivial h)).mono ?_); rintro e w9 ⟨v9, N9, vn9, rfl, hk9, ho9, hd9⟩; have HK := Lib.hid hk9; have HD := Lib.hid (OutD.app HA.out ho9 hd9); have HA := Lib.hid HD.out.out; clear hk9 ho9 hd9)
        | (go_at_call 42; have HDW := Lib.hid (HD.out.weak (j := 0 + 1) (by decide)); refine (KX.node (k := 0) (kind := 10) (HK.out.ints3 _ _ _ ) ?_ HCC.out.len HDW.out ?_ HFEW.out ?_).mono ?_; exact List.mem_cons_self ..; rfl; simp; rintro e w9 ⟨v9, N9, vn9, rfl, hk9, ho9⟩; have HK := Lib.hid hk9; have HZ := Lib.hid ho9; clear hk9 ho9))
    all_goals
      have HQ := Lib.hid (KX.fin HZ.out HK.out (fun he => absurd HLI.out.2 (HDD.out he)) (r' := (formulaT T D n (NT T D n)) s) (HEQ.out _ HV1.out))
      go_wp2_with fail
      go_ret
      exact HQ.out
end
end Go.Proofs.YtddccnpohpaofaaGreatDoor
