/- The program's parser: what is nested. -/
import Derived.Test.YtoahgeleenpnjaaGreatDoorE26
set_option linter.unusedVariables false
set_option linter.unusedSimpArgs false
namespace Go.Proofs.YtoahgeleenpnjaaGreatDoor
open Go.RowKit

/-- What a function does that reads one thing, where P holds of the state. -/
def SubI (b bb : Nat) (T : List Tok) (D n : Nat) (P : St → Prop) (f : Nat) (sub : St → RT) : Prop :=
  ∀ (s : St) (N : List Nd) (vn : Value) (A : Nat → Prop) (w : World), P s → XAt w b bb T D n s s.i N vn A → Calls Tryz.prog f #[.pointer (some ⟨b, 0, none⟩)] w (IPost b bb T D n 0 s (sub s) N vn A w)
theorem IPost.fail {b bb : Nat} {T : List Tok} {D n m k : Nat} (hm : m ≠ 0) {s : St} {N : List Nd} {vn : Value} {A : Nat → Prop} {w w' : World} (h : XAt w' b bb T D n (failQ T m s) s.i N vn A) (hs : Step b bb vn w vn w') : IPost b bb T D n k s ([], failQ T m s) N vn A w (.returned (.int .i64 (-1))) w' :=
  ⟨-1, N, vn, rfl, by show XAt w' b bb T D n (failQ T m s) (failQ T m s).i N vn A; rw [fail_i]; exact h, hs, OutD.fail hm [], fun h => by show (failQ T m s).e ≠ 0; rw [fail_same T h]; exact h⟩

section
variable (b bb : Nat) (T : List Tok) (D n : Nat)

set_option maxRecDepth 100000 in
set_option maxHeartbeats 4000000 in
theorem nested_expression (hD : D ≤ 200) (hn : n ≤ D) (P : St → Prop) (sub : St → RT) (hC : n < D → SubI b bb T D (n + 1) P 84 sub) (s : St) (N : List Nd) (vn : Value) (A : Nat → Prop) (w : World) (hP : P s) (h : XAt w b bb T D n s s.i N vn A) :
    Calls Tryz.prog 66 #[.pointer (some ⟨b, 0, none⟩), .func (.func 84) #[] #[]] w (IPost b bb T D n 0 s (nestP T D n sub s) N vn A w) := by
  obtain ⟨d0, d1, d2, d3, d4, d5, d6, d7, d8, d9, d10⟩ := cells10 h.box
  have HX := Lib.hid h
  have HXD : Hid (∀ m, XAt (w.drewN m) b bb T D n s s.i N vn A) := Lib.hid (fun m => HX.out.kept (gb_drewN (gb_refl _ _) _))
  have HGD : Hid (∀ m, Step b bb vn w vn (w.drewN m)) := Lib.hid (fun m => Step.of (gb_drewN (gb_refl _ _) _))
  by_cases hnD : n = D
  · have HZ : Hid (nestP T D n sub s = ([], failQ T 23 s)) := Lib.hid (by unfold nestP; rw [if_pos hnD])
    have HF := Lib.hid (fun w h => pfail_c b bb T D n 23 s s.i N vn A w h)
    have e1 : (n == D) = true := by rw [hnD]; simp
    have e1' : ((n : Int) == (D : Int)) = true := by rw [hnD]; simp
    rw [HZ.out]
    clear h hC hP hn hD hnD
    go_enter Tryz.func66, Tryz.ntmps66
    go_wp2_with fail
    go_quiet (fail)
    go_wp2_with fail
    refine (HF.out _ (HXD.out _)).mono ?_
    rintro e w2 ⟨rfl, h2, st2⟩
    have HQ := Lib.hid (IPost.fail (k := 0) (by decide) h2 ((HGD.out _).trans st2))
    clear h2 st2
    go_wp2_with fail
    go_ret
    exact HQ.out
  · have HZ : Hid (nestP T D n sub s = sub s) := Lib.hid (by unfold nestP; rw [if_neg hnD])
    have HC := Lib.hid (fun w h => hC (by omega) s N vn A w hP h)
    have e1 : (n == D) = false := beq_eq_false_iff_ne.2 hnD
    have e1' : ((n : Int) == (D : Int)) = false := beq_eq_false_iff_ne.2 (by omega)
    have hw1 : IntKind.i64.wrap ((n : Int) + 1) = ((n + 1 : Nat) : Int) := by rw [IntWalk.i64_in _ (by omega)]; omega
    have hw2 : IntKind.i64.wrap (((n + 1 : Nat) : Int) - 1) = (n : Int) := by rw [IntWalk.i64_in _ (by omega)]; omega
    obtain ⟨n1, hn1⟩ : ∃ n1, n + 1 = n1 := ⟨_, rfl⟩
    rw [hn1] at hw1 hw2 HC
    have HXS : Hid (∀ m, XAt ((w.drewN m).setCell ⟨b, 6, none⟩ (.int .i64 (n1 : Int))) b bb T D n1 s s.i N vn A) := Lib.hid (fun m => (HXD.out m).turn ((Fr2.refl _ _).setCell (mine b) _) ((set_cells (i := 6) (HXD.out m).box).trans rfl) HX.out.ok)
    have HGS : Hid (∀ m, Step b bb vn w vn ((w.drewN m).setCell ⟨b, 6, none⟩ (.int .i64 (n1 : Int)))) := Lib.hid (fun m => (HGD.out m).trans (Step.self ((Fr2.refl _ _).setCell (mine b) _)))
    rw [HZ.out]
    clear h hC hP hn hD hnD hn1
    go_enter Tryz.func66, Tryz.ntmps66
    go_wp2_with fail
    go_quiet (fail)
    go_wp2_with fail
    refine (HC.out _ (HXS.out _)).mono ?_
    rintro e w2 ⟨v, N', vn', rfl, h2, st2, o2, k2⟩
    have HX2 := Lib.hid h2; have HS2 := Lib.hid ((HGS.out _).trans st2); have HO2 := Lib.hid o2; have HK2 := Lib.hid k2
    obtain ⟨d0, d1, d2, d3, d4, d5, d6, d7, d8, d9, d10⟩ := cells10 h2.box
    clear h2 st2 o2 k2 HXS HGS HXD HGD HC
    go_wp2_with fail
    go_ret
    have hf : Fr2 (Self b) w2 (w2.setCell ⟨b, 6, none⟩ (.int .i64 (n : Int))) := (Fr2.refl _ _).setCell (mine b) _
    exact ⟨v, N', vn', rfl, HX2.out.turn hf ((set_cells (i := 6) HX2.out.box).trans rfl) HX2.out.ok, HS2.out.trans (Step.self hf), HO2.out, HK2.out⟩

set_option maxRecDepth 100000 in
set_option maxHeartbeats 4000000 in
theorem nested_formula (hD : D ≤ 200) (hn : n ≤ D) (P : St → Prop) (sub : St → RT) (hC : n < D → SubI b bb T D (n + 1) P 67 sub) (s : St) (N : List Nd) (vn : Value) (A : Nat → Prop) (w : World) (hP : P s) (h : XAt w b bb T D n s s.i N vn A) :
    Calls Tryz.prog 66 #[.pointer (some ⟨b, 0, none⟩), .func (.func 67) #[] #[]] w (IPost b bb T D n 0 s (nestP T D n sub s) N vn A w) := by
  obtain ⟨d0, d1, d2, d3, d4, d5, d6, d7, d8, d9, d10⟩ := cells10 h.box
  have HX := Lib.hid h
  have HXD : Hid (∀ m, XAt (w.drewN m) b bb T D n s s.i N vn A) := Lib.hid (fun m => HX.out.kept (gb_drewN (gb_refl _ _) _))
  have HGD : Hid (∀ m, Step b bb vn w vn (w.drewN m)) := Lib.hid (fun m => Step.of (gb_drewN (gb_refl _ _) _))
  by_cases hnD : n = D
  · have HZ : Hid (nestP T D n sub s = ([], failQ T 23 s)) := Lib.hid (by unfold nestP; rw [if_pos hnD])
    have HF := Lib.hid (fun w h => pfail_c b bb T D n 23 s s.i N vn A w h)
    have e1 : (n == D) = true := by rw [hnD]; simp
    have e1' : ((n : Int) == (D : Int)) = true := by rw [hnD]; simp
    rw [HZ.out]
    clear h hC hP hn hD hnD
    go_enter Tryz.func66, Tryz.ntmps66
    go_wp2_with fail
    go_quiet (fail)
    go_wp2_with fail
    refine (HF.out _ (HXD.out _)).mono ?_
    rintro e w2 ⟨rfl, h2, st2⟩
    have HQ := Lib.hid (IPost.fail (k := 0) (by decide) h2 ((HGD.out _).trans st2))
    clear h2 st2
    go_wp2_with fail
    go_ret
    exact HQ.out
  · have HZ : Hid (nestP T D n sub s = sub s) := Lib.hid (by unfold nestP; rw [if_neg hnD])
    have HC := Lib.hid (fun w h => hC (by omega) s N vn A w hP h)
    have e1 : (n == D) = false := beq_eq_false_iff_ne.2 hnD
    have e1' : ((n : Int) == (D : Int)) = false := beq_eq_false_iff_ne.2 (by omega)
    have hw1 : IntKind.i64.wrap ((n : Int) + 1) = ((n + 1 : Nat) : Int) := by rw [IntWalk.i64_in _ (by omega)]; omega
    have hw2 : IntKind.i64.wrap (((n + 1 : Nat) : Int) - 1) = (n : Int) := by rw [IntWalk.i64_in _ (by omega)]; omega
    obtain ⟨n1, hn1⟩ : ∃ n1, n + 1 = n1 := ⟨_, rfl⟩
    rw [hn1] at hw1 hw2 HC
    have HXS : Hid (∀ m, XAt ((w.drewN m).setCell ⟨b, 6, none⟩ (.int .i64 (n1 : Int))) b bb T D n1 s s.i N vn A) := Lib.hid (fun m => (HXD.out m).turn ((Fr2.refl _ _).setCell (mine b) _) ((set_cells (i := 6) (HXD.out m).box).trans rfl) HX.out.ok)
    have HGS : Hid (∀ m, Step b bb vn w vn ((w.drewN m).setCell ⟨b, 6, none⟩ (.int .i64 (n1 : Int)))) := Lib.hid (fun m => (HGD.out m).trans (Step.self ((Fr2.refl _ _).setCell (mine b) _)))
    rw [HZ.out]
    clear h hC hP hn hD hnD hn1
    go_enter Tryz.func66, Tryz.ntmps66
    go_wp2_with fail
    go_quiet (fail)
    go_wp2_with fail
    refine (HC.out _ (HXS.out _)).mono ?_
    rintro e w2 ⟨v, N', vn', rfl, h2, st2, o2, k2⟩
    have HX2 := Lib.hid h2; have HS2 := Lib.hid ((HGS.out _).trans st2); have HO2 := Lib.hid o2; have HK2 := Lib.hid k2
    obtain ⟨d0, d1, d2, d3, d4, d5, d6, d7, d8, d9, d10⟩ := cells10 h2.box
    clear h2 st2 o2 k2 HXS HGS HXD HGD HC
    go_wp2_with fail
    go_ret
    have hf : Fr2 (Self b) w2 (w2.setCell ⟨b, 6, none⟩ (.int .i64 (n : Int))) := (Fr2.refl _ _).setCell (mine b) _
    exact ⟨v, N', vn', rfl, HX2.out.turn hf ((set_cells (i := 6) HX2.out.box).trans rfl) HX2.out.ok, HS2.out.trans (Step.self hf), HO2.out, HK2.out⟩

set_option maxRecDepth 100000 in
set_option maxHeartbeats 4000000 in
theorem nested_negation (hD : D ≤ 200) (hn : n ≤ D) (P : St → Prop) (sub : St → RT) (hC : n < D → SubI b bb T D (n + 1) P 139 sub) (s : St) (N : List Nd) (vn : Value) (A : Nat → Prop) (w : World) (hP : P s) (h : XAt w b bb T D n s s.i N vn A) :
    Calls Tryz.prog 66 #[.pointer (some ⟨b, 0, none⟩), .func (.func 139) #[] #[]] w (IPost b bb T D n 0 s (nestP T D n sub s) N vn A w) := by
  obtain ⟨d0, d1, d2, d3, d4, d5, d6, d7, d8, d9, d10⟩ := cells10 h.box
  have HX := Lib.hid h
  have HXD : Hid (∀ m, XAt (w.drewN m) b bb T D n s s.i N vn A) := Lib.hid (fun m => HX.out.kept (gb_drewN (gb_refl _ _) _))
  have HGD : Hid (∀ m, Step b bb vn w vn (w.drewN m)) := Lib.hid (fun m => Step.of (gb_drewN (gb_refl _ _) _))
  by_cases hnD : n = D
  · have HZ : Hid (nestP T D n sub s = ([], failQ T 23 s)) := Lib.hid (by unfold nestP; rw [if_pos hnD])
    have HF := Lib.hid (fun w h => pfail_c b bb T D n 23 s s.i N vn A w h)
    have e1 : (n == D) = true := by rw [hnD]; simp
    have e1' : ((n : Int) == (D : Int)) = true := by rw [hnD]; simp
    rw [HZ.out]
    clear h hC hP hn hD hnD
    go_enter Tryz.func66, Tryz.ntmps66
    go_wp2_with fail
    go_quiet (fail)
    go_wp2_with fail
    refine (HF.out _ (HXD.out _)).mono ?_
    rintro e w2 ⟨rfl, h2, st2⟩
    have HQ := Lib.hid (IPost.fail (k := 0) (by decide) h2 ((HGD.out _).trans st2))
    clear h2 st2
    go_wp2_with fail
    go_ret
    exact HQ.out
  · have HZ : Hid (nestP T D n sub s = sub s) := Lib.hid (by unfold nestP; rw [if_neg hnD])
    have HC := Lib.hid (fun w h => hC (by omega) s N vn A w hP h)
    have e1 : (n == D) = false := beq_eq_false_iff_ne.2 hnD
    have e1' : ((n : Int) == (D : Int)) = false := beq_eq_false_iff_ne.2 (by omega)
    have hw1 : IntKind.i64.wrap ((n : Int) + 1) = ((n + 1 : Nat) : Int) := by rw [IntWalk.i64_in _ (by omega)]; omega
    have hw2 : IntKind.i64.wrap (((n + 1 : Nat) : Int) - 1) = (n : Int) := by rw [IntWalk.i64_in _ (by omega)]; omega
    obtain ⟨n1, hn1⟩ : ∃ n1, n + 1 = n1 := ⟨_, rfl⟩
    rw [hn1] at hw1 hw2 HC
    have HXS : Hid (∀ m, XAt ((w.drewN m).setCell ⟨b, 6, none⟩ (.int .i64 (n1 : Int))) b bb T D n1 s s.i N vn A) := Lib.hid (fun m => (HXD.out m).turn ((Fr2.refl _ _).setCell (mine b) _) ((set_cells (i := 6) (HXD.out m).box).trans rfl) HX.out.ok)
    have HGS : Hid (∀ m, Step b bb vn w vn ((w.drewN m).setCell ⟨b, 6, none⟩ (.int .i64 (n1 : Int)))) := Lib.hid (fun m => (HGD.out m).trans (Step.self ((Fr2.refl _ _).setCell (mine b) _)))
    rw [HZ.out]
    clear h hC hP hn hD hnD hn1
    go_enter Tryz.func66, Tryz.ntmps66
    go_wp2_with fail
    go_quiet (fail)
    go_wp2_with fail
    refine (HC.out _ (HXS.out _)).mono ?_
    rintro e w2 ⟨v, N', vn', rfl, h2, st2, o2, k2⟩
    have HX2 := Lib.hid h2; have HS2 := Lib.hid ((HGS.out _).trans st2); have HO2 := Lib.hid o2; have HK2 := Lib.hid k2
    obtain ⟨d0, d1, d2, d3, d4, d5, d6, d7, d8, d9, d10⟩ := cells10 h2.box
    clear h2 st2 o2 k2 HXS HGS HXD HGD HC
    go_wp2_with fail
    go_ret
    have hf : Fr2 (Self b) w2 (w2.setCell ⟨b, 6, none⟩ (.int .i64 (n : Int))) := (Fr2.refl _ _).setCell (mine b) _
    exact ⟨v, N', vn', rfl, HX2.out.turn hf ((set_cells (i := 6) HX2.out.box).trans rfl) HX2.out.ok, HS2.out.trans (Step.self hf), HO2.out, HK2.out⟩

set_option maxRecDepth 100000 in
set_option maxHeartbeats 4000000 in
theorem nested_factor (hD : D ≤ 200) (hn : n ≤ D) (P : St → Prop) (sub : St → RT) (hC : n < D → SubI b bb T D (n + 1) P 173 sub) (s : St) (N : List Nd) (vn : Value) (A : Nat → Prop) (w : World) (hP : P s) (h : XAt w b bb T D n s s.i N vn A) :
    Calls Tryz.prog 66 #[.pointer (some ⟨b, 0, none⟩), .func (.func 173) #[] #[]] w (IPost b bb T D n 0 s (nestP T D n sub s) N vn A w) := by
  obtain ⟨d0, d1, d2, d3, d4, d5, d6, d7, d8, d9, d10⟩ := cells10 h.box
  have HX := Lib.hid h
  have HXD : Hid (∀ m, XAt (w.drewN m) b bb T D n s s.i N vn A) := Lib.hid (fun m => HX.out.kept (gb_drewN (gb_refl _ _) _))
  have HGD : Hid (∀ m, Step b bb vn w vn (w.drewN m)) := Lib.hid (fun m => Step.of (gb_drewN (gb_refl _ _) _))
  by_cases hnD : n = D
  · have HZ : Hid (nestP T D n sub s = ([], failQ T 23 s)) := Lib.hid (by unfold nestP; rw [if_pos hnD])
    have HF := Lib.hid (fun w h => pfail_c b bb T D n 23 s s.i N vn A w h)
    have e1 : (n == D) = true := by rw [hnD]; simp
    have e1' : ((n : Int) == (D : Int)) = true := by rw [hnD]; simp
    rw [HZ.out]
    clear h hC hP hn hD hnD
    go_enter Tryz.func66, Tryz.ntmps66
    go_wp2_with fail
    go_quiet (fail)
    go_wp2_with fail
    refine (HF.out _ (HXD.out _)).mono ?_
    rintro e w2 ⟨rfl, h2, st2⟩
    have HQ := Lib.hid (IPost.fail (k := 0) (by decide) h2 ((HGD.out _).trans st2))
    clear h2 st2
    go_wp2_with fail
    go_ret
    exact HQ.out
  · have HZ : Hid (nestP T D n sub s = sub s) := Lib.hid (by unfold nestP; rw [if_neg hnD])
    have HC := Lib.hid (fun w h => hC (by omega) s N vn A w hP h)
    have e1 : (n == D) = false := beq_eq_false_iff_ne.2 hnD
    have e1' : ((n : Int) == (D : Int)) = false := beq_eq_false_iff_ne.2 (by omega)
    have hw1 : IntKind.i64.wrap ((n : Int) + 1) = ((n + 1 : Nat) : Int) := by rw [IntWalk.i64_in _ (by omega)]; omega
    have hw2 : IntKind.i64.wrap (((n + 1 : Nat) : Int) - 1) = (n : Int) := by rw [IntWalk.i64_in _ (by omega)]; omega
    obtain ⟨n1, hn1⟩ : ∃ n1, n + 1 = n1 := ⟨_, rfl⟩
    rw [hn1] at hw1 hw2 HC
    have HXS : Hid (∀ m, XAt ((w.drewN m).setCell ⟨b, 6, none⟩ (.int .i64 (n1 : Int))) b bb T D n1 s s.i N vn A) := Lib.hid (fun m => (HXD.out m).turn ((Fr2.refl _ _).setCell (mine b) _) ((set_cells (i := 6) (HXD.out m).box).trans rfl) HX.out.ok)
    have HGS : Hid (∀ m, Step b bb vn w vn ((w.drewN m).setCell ⟨b, 6, none⟩ (.int .i64 (n1 : Int)))) := Lib.hid (fun m => (HGD.out m).trans (Step.self ((Fr2.refl _ _).setCell (mine b) _)))
    rw [HZ.out]
    clear h hC hP hn hD hnD hn1
    go_enter Tryz.func66, Tryz.ntmps66
    go_wp2_with fail
    go_quiet (fail)
    go_wp2_with fail
    refine (HC.out _ (HXS.out _)).mono ?_
    rintro e w2 ⟨v, N', vn', rfl, h2, st2, o2, k2⟩
    have HX2 := Lib.hid h2; have HS2 := Lib.hid ((HGS.out _).trans st2); have HO2 := Lib.hid o2; have HK2 := Lib.hid k2
    obtain ⟨d0, d1, d2, d3, d4, d5, d6, d7, d8, d9, d10⟩ := cells10 h2.box
    clear h2 st2 o2 k2 HXS HGS HXD HGD HC
    go_wp2_with fail
    go_ret
    have hf : Fr2 (Self b) w2 (w2.setCell ⟨b, 6, none⟩ (.int .i64 (n : Int))) := (Fr2.refl _ _).setCell (mine b) _
    exact ⟨v, N', vn', rfl, HX2.out.turn hf ((set_cells (i := 6) HX2.out.box).trans rfl) HX2.out.ok, HS2.out.trans (Step.self hf), HO2.out, HK2.out⟩

set_option maxRecDepth 100000 in
set_option maxHeartbeats 4000000 in
theorem part_c (hD : D ≤ 200) (hn : n ≤ D) (hC : n < D → SubI b bb T D (n + 1) (fun s => s.inn = false) 84 (bodyE T D (n + 1) (NT T D (n + 1)))) : SubI b bb T D n (fun s => s.inn = false) 120 (NT T D n).expr := by
  intro s N vn A w hP h
  have HN := Lib.hid (nested_expression b bb T D n hD hn _ _ hC s N vn A w hP h)
  have HE := Lib.hid (expr_nest T hn s hP)
  clear h hC hP hn hD
  go_enter Tryz.func120, Tryz.ntmps120
  go_wp2_with fail
  refine HN.out.mono ?_
  rintro e w2 hp
  have HQ := Lib.hid (hp.eqv HE.out)
  obtain ⟨v, N', vn', rfl, -⟩ := hp
  clear HN
  go_wp2_with fail
  go_ret
  exact HQ.out
end
end Go.Proofs.YtoahgeleenpnjaaGreatDoor
