/- Lemmas. -/
import Derived.Test.YtddccnpohpaofaaGreatDoorP18
import Derived.Test.YtddccnpohpaofaaGreatDoorP25
set_option linter.unusedVariables false
set_option linter.unusedSimpArgs false
namespace Go.Proofs.YtddccnpohpaofaaGreatDoor
open Go.RowKit

mutual
theorem right_fit {f : Bool} : ∀ {x : Sx}, rightB f x = true → okS x → fitS x
  | .mk op nm md nu ys ks ps, h, ho => by
    simp only [rightB, aloneB, Bool.and_eq_true] at h
    simp only [okS] at ho
    simp only [fitS]
    exact ⟨⟨of_decide_eq_true h.1.2.1.1.1.1.1, of_decide_eq_true h.1.2.1.1.1.1.2, h.1.2.1.1.1.2, ho.1.1, ho.1.2.1, ho.1.2.2⟩, right_fits h.2 ho.2⟩
theorem right_fits {f : Bool} : ∀ {l : List Sx}, rightBs f l = true → okSs l → fitSs l
  | [], _, _ => by simp [fitSs]
  | x :: l, h, ho => by
    simp only [rightBs, Bool.and_eq_true] at h
    simp only [okSs] at ho
    simp only [fitSs]
    exact ⟨right_fit h.1 ho.1, right_fits h.2 ho.2⟩
end
theorem fr_gb {w w' : World} {S : Nat → Prop} (h : Fr2 S w w') (hS : ∀ k, S k → w.heap.size ≤ k) : w.grownBy w' none := below_gb (h.below (Nat.le_refl _) hS)
theorem LaidW.lt {w : World} (h : LaidW w) : 5 < w.heap.size := by
  have := h 0 _ rfl
  rcases Nat.lt_or_ge 5 w.heap.size with h1 | h1
  · exact h1
  · exfalso; simp [World.cell?, Array.getElem?_eq_none h1] at this
set_option maxRecDepth 100000 in
set_option maxHeartbeats 16000000 in
theorem exprText_c (F : Nat → Prop) (g o : Nat) (x : Sx) (q : List Value) (w : World) (hla : LaidW w) (hx : SAt F w x q) (hF : ∀ k, F k → k < w.heap.size) (hg : g < w.heap.size) (hc : ∀ i v, q[i]? = some v → w.cell? ⟨g, o + i, none⟩ = some v) (hfit : fitS x) (hwg : wgS x ≤ 500000) (ht : (txS x).length ≤ 1000000000) :
    Calls Tryz.prog 16 #[.pointer (some ⟨g, o, none⟩)] w (fun e w' => e = .returned (.string ⟨(txS x).toArray⟩) ∧ w.grownBy w' none) := by
  have hga := World.grownBy_alloc w (.cells #[.slice none 0 0] 92) none
  have hW : WrAt (fun k => k < w.heap.size) (w.heap.size + 1) w.heap.size (w.alloc (.cells #[.slice none 0 0] 92)) [] :=
    ⟨.slice none 0 0, heap_alloc_new w _, OwnG.nil _ _ _ _, by omega, by simp, by omega, fun k hk => by simp [Value.ownBlock] at hk, fun k hk => by simp; omega⟩
  have HE := Lib.hid (expr_c9 _ _ _ [] (some ⟨g, o, none⟩) (0 : Int) _ hW (by simp))
  have HT : Hid (∀ w2, WrAt (fun k => k < w.heap.size) (w.heap.size + 1) w.heap.size w2 [rowX g o 0] → Fr2 (fun k => ¬ k < w.heap.size) w w2 → Calls Tryz.prog 37 #[.pointer (some ⟨w.heap.size, 0, none⟩)] w2 (fun e w' => e = .returned (.string ⟨(txS x).toArray⟩) ∧ Fr2 (fun k => ¬ k < w.heap.size) w2 w')) := Lib.hid (fun w2 h2 hf => by
    have hp : PcsAt (fun k => F k ∨ k = g) w2 [.ex x 0] [rowX g o 0] := ⟨_, _, rfl, ⟨g, o, q, rfl, .inr rfl, Nat.lt_of_lt_of_le hg hf.size, (hx.same hf (fun k hk e => e (hF k hk))).mono (fun k hk => .inl hk), fun i v hi => by rw [World.cell?_of_block (w := w) (hf.block g hg (fun e => e hg))]; exact hc i v hi⟩, rfl⟩
    have htx : textPs [.ex x 0] = txS x := by simp [textPs, textP, wrapS, wrapT0]
    have := text_c9 (fun k => k < w.heap.size) (fun k => F k ∨ k = g) (w.heap.size + 1) w.heap.size [rowX g o 0] [.ex x 0] w2 h2 hp (by simp) (by simp [wgPs, wgP]; exact hwg) (by simp) (fun k hk => by rcases hk with hk | rfl; exact hF k hk; exact hg) hla.lt (hla.same hf hla.lt hla.lt) (fun p hp => by simp at hp; subst hp; exact hfit) (by rw [htx]; exact ht)
    rw [htx] at this
    exact this)
  have HG := Lib.hid hga
  clear hla hx hF hc hfit hwg ht hW hga
  obtain ⟨T, hT⟩ : ∃ T, txS x = T := ⟨_, rfl⟩
  rw [hT] at HT ⊢
  clear hT
  go_enter Tryz.func16, Tryz.ntmps16
  go_wp2_with fail
  refine HE.out.mono ?_
  rintro e w2 ⟨rfl, hw2, hf2⟩
  have hf : Fr2 (fun k => ¬ k < w.heap.size) w w2 := (Fr2.none HG.out).trans hf2
  have HT2 := Lib.hid (HT.out w2 hw2 hf)
  have HF := Lib.hid hf
  clear hw2 hf2 hf HT HE
  go_wp2_with fail
  refine HT2.out.mono ?_
  rintro e w3 ⟨rfl, hf3⟩
  have HG3 := Lib.hid (fr_gb (HF.out.trans hf3) (fun k hk => by omega))
  clear hf3
  go_wp2_with fail
  go_ret
  exact ⟨rfl, HG3.out⟩

set_option maxRecDepth 100000 in
set_option maxHeartbeats 16000000 in
theorem isFormula_c (F : Nat → Prop) (a0 : Addr) (x0 : Sx) (q0 : List Value) (w : World) (hla : LaidE w) (hc : CAt w a0 q0) (hx : SAt F w x0 q0) (hsz : sizS x0 ≤ 1000000) (hok : okS x0) (hF : ∀ k, F k → k < w.heap.size) :
    Calls Tryz.prog 15 #[.pointer (some a0)] w (TruePost (rightB true x0) w) := by
  have HR := Lib.hid (isRight_c true 35 (.inl ⟨rfl, rfl⟩) F a0 x0 q0 w hla hc hx hsz hok hF)
  clear hla hc hx hsz hok hF
  go_enter Tryz.func15, Tryz.ntmps15
  go_wp2_with fail
  refine HR.out.mono ?_
  rintro e w2 ⟨rfl, hg⟩
  have HG := Lib.hid hg
  clear hg
  go_wp2_with fail
  go_ret
  exact ⟨rfl, HG.out⟩

set_option maxRecDepth 100000 in
set_option maxHeartbeats 16000000 in
theorem isBody_c (F : Nat → Prop) (a0 : Addr) (x0 : Sx) (q0 : List Value) (w : World) (hla : LaidE w) (hc : CAt w a0 q0) (hx : SAt F w x0 q0) (hsz : sizS x0 ≤ 1000000) (hok : okS x0) (hF : ∀ k, F k → k < w.heap.size) :
    Calls Tryz.prog 28 #[.pointer (some a0)] w (TruePost (rightB false x0) w) := by
  have HR := Lib.hid (isRight_c false 54 (.inr ⟨rfl, rfl⟩) F a0 x0 q0 w hla hc hx hsz hok hF)
  clear hla hc hx hsz hok hF
  go_enter Tryz.func28, Tryz.ntmps28
  go_wp2_with fail
  refine HR.out.mono ?_
  rintro e w2 ⟨rfl, hg⟩
  have HG := Lib.hid hg
  clear hg
  go_wp2_with fail
  go_ret
  exact ⟨rfl, HG.out⟩
/-- What is told of an expression's text: it, or an error. -/
def ShowPost (f : Bool) (x : Sx) (w : World) (e : Ending) (w' : World) : Prop := e = .returned (.tuple #[.string ⟨(if rightB f x then txS x else []).toArray⟩, .int .i64 (if rightB f x then 0 else 10)]) ∧ w.grownBy w' none

set_option maxRecDepth 100000 in
set_option maxHeartbeats 16000000 in
theorem Formula_c (F : Nat → Prop) (x : Sx) (q : List Value) (w : World) (hla : LaidE w) (hlw : LaidW w) (hx : SAt F w x q) (hF : ∀ k, F k → k < w.heap.size) (hsz : sizS x ≤ 1000000) (hok : okS x) (hwg : wgS x ≤ 500000) (ht : (txS x).length ≤ 1000000000) :
    Calls Tryz.prog 6 #[.agg q.toArray] w (ShowPost true x w) := by
  have hga := World.grownBy_alloc w (.cells q.toArray 30) none
  have hbk := heap_alloc_new w (.cells q.toArray 30)
  have hcs : ∀ i v, q[i]? = some v → (w.alloc (.cells q.toArray 30)).cell? ⟨w.heap.size, 0 + i, none⟩ = some v := fun i v hi => by
    rw [Nat.zero_add, cell_of_row _ w.heap.size i _ _ (0, 0) hbk]; simpa using hi
  have hsz1 : (w.alloc (.cells q.toArray 30)).heap.size = w.heap.size + 1 := by simp
  have hx1 := hx.kept hga
  have hF1 : ∀ k, F k → k < (w.alloc (.cells q.toArray 30)).heap.size := fun k hk => by have := hF k hk; omega
  have HI := Lib.hid (isFormula_c F ⟨w.heap.size, 0, none⟩ x q _ (hla.kept hga) ⟨_, _, rfl, ⟨by omega, _, _, hbk⟩, hcs⟩ hx1 hsz hok hF1)
  have HT : Hid (rightB true x = true → ∀ w2, (w.alloc (.cells q.toArray 30)).grownBy w2 none → Calls Tryz.prog 16 #[.pointer (some ⟨w.heap.size, 0, none⟩)] w2 (fun e w' => e = .returned (.string ⟨(txS x).toArray⟩) ∧ w2.grownBy w' none)) := Lib.hid (fun hr w2 hg => by
    refine exprText_c F w.heap.size 0 x q w2 (fun j l hj => hg.cell (hga.cell (hlw j l hj) (by simp)) (by simp)) (hx1.kept hg) (fun k hk => Nat.lt_of_lt_of_le (hF1 k hk) hg.size) (Nat.lt_of_lt_of_le (by omega) hg.size) (fun i v hi => hg.cell (hcs i v hi) (by simp)) (right_fit hr hok) hwg ht)
  obtain ⟨v0, v1, v2, v3, v4, v5, v6, v7, rfl⟩ : ∃ v0 v1 v2 v3 v4 v5 v6 v7, q = [v0, v1, v2, v3, v4, v5, v6, v7] := by
    have := hx.len
    match q, this with
    | [v0, v1, v2, v3, v4, v5, v6, v7], _ => exact ⟨_, _, _, _, _, _, _, _, rfl⟩
  have HG := Lib.hid hga
  clear hla hlw hx hF hsz hok hwg ht hga hbk hcs hsz1 hx1 hF1
  unfold ShowPost
  obtain ⟨T, hT⟩ : ∃ T, txS x = T := ⟨_, rfl⟩
  obtain ⟨r, hr⟩ : ∃ r, rightB true x = r := ⟨_, rfl⟩
  rw [hT] at HT ⊢
  rw [hr] at HT HI ⊢
  clear hT hr
  go_enter Tryz.func6, Tryz.ntmps6
  go_wp2_with fail
  refine HI.out.mono ?_
  rintro e w2 ⟨rfl, hg2⟩
  have HT2 := Lib.hid (fun hr => HT.out hr w2 hg2)
  have HG2 := Lib.hid (gb_trans HG.out hg2)
  clear hg2 HT HI HG
  cases r with
  | false =>
    go_wp2_with fail
    go_ret2
    exact ⟨rfl, HG2.out⟩
  | true =>
    go_wp2_with fail
    refine (HT2.out trivial).mono ?_
    rintro e w3 ⟨rfl, hg3⟩
    have HG3 := Lib.hid (gb_trans HG2.out hg3)
    clear hg3
    go_wp2_with fail
    go_ret2
    exact ⟨rfl, HG3.out⟩

set_option maxRecDepth 100000 in
set_option maxHeartbeats 16000000 in
theorem Body_c (F : Nat → Prop) (x : Sx) (q : List Value) (w : World) (hla : LaidE w) (hlw : LaidW w) (hx : SAt F w x q) (hF : ∀ k, F k → k < w.heap.size) (hsz : sizS x ≤ 1000000) (hok : okS x) (hwg : wgS x ≤ 500000) (ht : (txS x).length ≤ 1000000000) :
    Calls Tryz.prog 11 #[.agg q.toArray] w (ShowPost false x w) := by
  have hga := World.grownBy_alloc w (.cells q.toArray 30) none
  have hbk := heap_alloc_new w (.cells q.toArray 30)
  have hcs : ∀ i v, q[i]? = some v → (w.alloc (.cells q.toArray 30)).cell? ⟨w.heap.size, 0 + i, none⟩ = some v := fun i v hi => by
    rw [Nat.zero_add, cell_of_row _ w.heap.size i _ _ (0, 0) hbk]; simpa using hi
  have hsz1 : (w.alloc (.cells q.toArray 30)).heap.size = w.heap.size + 1 := by simp
  have hx1 := hx.kept hga
  have hF1 : ∀ k, F k → k < (w.alloc (.cells q.toArray 30)).heap.size := fun k hk => by have := hF k hk; omega
  have HI := Lib.hid (isBody_c F ⟨w.heap.size, 0, none⟩ x q _ (hla.kept hga) ⟨_, _, rfl, ⟨by omega, _, _, hbk⟩, hcs⟩ hx1 hsz hok hF1)
  have HT : Hid (rightB false x = true → ∀ w2, (w.alloc (.cells q.toArray 30)).grownBy w2 none → Calls Tryz.prog 16 #[.pointer (some ⟨w.heap.size, 0, none⟩)] w2 (fun e w' => e = .returned (.string ⟨(txS x).toArray⟩) ∧ w2.grownBy w' none)) := Lib.hid (fun hr w2 hg => by
    refine exprText_c F w.heap.size 0 x q w2 (fun j l hj => hg.cell (hga.cell (hlw j l hj) (by simp)) (by simp)) (hx1.kept hg) (fun k hk => Nat.lt_of_lt_of_le (hF1 k hk) hg.size) (Nat.lt_of_lt_of_le (by omega) hg.size) (fun i v hi => hg.cell (hcs i v hi) (by simp)) (right_fit hr hok) hwg ht)
  obtain ⟨v0, v1, v2, v3, v4, v5, v6, v7, rfl⟩ : ∃ v0 v1 v2 v3 v4 v5 v6 v7, q = [v0, v1, v2, v3, v4, v5, v6, v7] := by
    have := hx.len
    match q, this with
    | [v0, v1, v2, v3, v4, v5, v6, v7], _ => exact ⟨_, _, _, _, _, _, _, _, rfl⟩
  have HG := Lib.hid hga
  clear hla hlw hx hF hsz hok hwg ht hga hbk hcs hsz1 hx1 hF1
  unfold ShowPost
  obtain ⟨T, hT⟩ : ∃ T, txS x = T := ⟨_, rfl⟩
  obtain ⟨r, hr⟩ : ∃ r, rightB false x = r := ⟨_, rfl⟩
  rw [hT] at HT ⊢
  rw [hr] at HT HI ⊢
  clear hT hr
  go_enter Tryz.func11, Tryz.ntmps11
  go_wp2_with fail
  refine HI.out.mono ?_
  rintro e w2 ⟨rfl, hg2⟩
  have HT2 := Lib.hid (fun hr => HT.out hr w2 hg2)
  have HG2 := Lib.hid (gb_trans HG.out hg2)
  clear hg2 HT HI HG
  cases r with
  | false =>
    go_wp2_with fail
    go_ret2
    exact ⟨rfl, HG2.out⟩
  | true =>
    go_wp2_with fail
    refine (HT2.out trivial).mono ?_
    rintro e w3 ⟨rfl, hg3⟩
    have HG3 := Lib.hid (gb_trans HG2.out hg3)
    clear hg3
    go_wp2_with fail
    go_ret2
    exact ⟨rfl, HG3.out⟩

section
variable (b bb : Nat) (T : List Tok) (D n : Nat)

set_option maxRecDepth 100000 in
set_option maxHeartbeats 4000000 in
theorem negation_p (hC : TokC T) (hD : D ≤ 200) (hn : n ≤ D) (hA : SubI b bb T D n (fun _ => True) 140 (cmpT T D n (NT T D n))) (hB : n < D → SubI b bb T D (n + 1) (fun _ => True) 125 (notT T D (n + 1) (NT T D (n + 1)))) : SubI b bb T D n (fun _ => True) 125 (notT T D n (NT T D n)) := by
  intro s N vn A w hP h
  have HCC := Lib.hid hC; have HPP := Lib.hid hP
  have HSA := Lib.hid hA
  have HNB := Lib.hid (nested_negation b bb T D n hD hn (fun _ => True) _ hB)
  have HEQ := Lib.hid (fun s hk => sign_eqv T hn (sub := notT T D (n + 1) (NT T D (n + 1))) (sub' := (NT T D n).nots) (fun hlt => by rw [NT_succ T hlt]) s hk)
  have HK := Lib.hid (KX.start h)
  have HFEW := Lib.hid h.few
  have HA := Lib.hid (OutL.nil N s)
  clear h hC hP hD hn hA hB
  go_enter Tryz.func125, Tryz.ntmps125
  go_wp2_with fail
  refine (KX.at (ws := [[110, 111, 116]]) (HK.out.strs1 _ _) (List.mem_cons_self ..) (by decide)).mono ?_
  rintro e w1 ⟨rfl, hk⟩
  have HK := Lib.hid (hk.nils)
  obtain ⟨b1, hb⟩ : ∃ b1, isQ T [110, 111, 116] s = b1 := ⟨_, rfl⟩
  rw [at_one HCC.out (by decide), hb]
  have HV1 := Lib.hid hb
  clear hk hb
  cases b1
  · skip
    go_wp2_with fail
    refine (HK.out.sub HSA.out trivial).mono ?_
    rintro e w9 ⟨v9, N9, vn9, rfl, hk9, ho9, hd9⟩
    have HQ := Lib.hid (KX.fin ho9 hk9 hd9 (r' := (notT T D n (NT T D n)) s) (by rw [not_cmp HV1.out]; exact Eqv.refl _))
    clear hk9 ho9 hd9
    go_wp2_with fail
    go_ret
    exact HQ.out
  · skip
    have HLI := Lib.hid (is_kind HV1.out)
    go_wp2_with fail
    have HK := Lib.hid HK.out.drew
    go_region_held3 (fun w' => w'.cell? ⟨b, 0, none⟩ = some (.pointer (some ⟨bb, 0, none⟩))) (first | with_reducible exact HK.out.cell | with_reducible exact (HK.out.alloc _).cell | with_reducible exact ((HK.out.alloc _).alloc _).cell | with_reducible exact (((HK.out.alloc _).alloc _).alloc _).cell)
      (first
        | (go_at_call 76; (first | with_reducible refine (HK.out.take HCC.out HLI.out.1 HLI.out.2).mono ?_ | with_reducible refine ((HK.out.strs1 _ _).take HCC.out HLI.out.1 HLI.out.2).mono ?_ | with_reducible refine (((HK.out.strs1 _ _).strs1 _ _).take HCC.out HLI.out.1 HLI.out.2).mono ?_); rintro e w9 ⟨v9, N9, vn9, rfl, hk9, ho9, hd9⟩; have HK := Lib.hid hk9; have HD := Lib.hid (OutD.app HA.out ho9 hd9); have HA := Lib.hid HD.out.out; clear hk9 ho9 hd9)
        | (go_at_call 43; (first | with_reducible refine (HK.out.call (fun A h => HNB.out _ _ _ A _ trivial h)).mono ?_ | with_reducible refine ((HK.out.strs1 _ _).call (fun A h => HNB.out _ _ _ A _ trivial h)).mono ?_ | with_reducible refine (((HK.out.strs1 _ _).strs1 _ _).call (fun A h => HNB.out _ _ _ A _ trivial h)).mono ?_); rintro e w9 ⟨v9, N9, vn9, rfl, hk9, ho9, hd9⟩; have HK := Lib.hid hk9; have HD := Lib.hid (OutD.app HA.out ho9 hd9); have HA := Lib.hid HD.out.out; clear hk9 ho9 hd9)
        | (go_at_call 42; have HDW := Lib.hid (HD.out.weak (j := 0 + 1) (by decide)); refine (KX.node (k := 0) (kind := 11) (HK.out.ints2 _ _ ) ?_ HCC.out.len HDW.out ?_ HFEW.out ?_).mono ?_; exact List.mem_cons_self ..; rfl; simp; rintro e w9 ⟨v9, N9, vn9, rfl, hk9, ho9⟩; have HK := Lib.hid hk9; have HZ := Lib.hid ho9; clear hk9 ho9))
    all_goals
      have HQ := Lib.hid (KX.fin HZ.out HK.out (fun he => absurd HLI.out.2 he) (r' := (notT T D n (NT T D n)) s) (by rw [show notT T D n (NT T D n) s = signT T D n (NT T D n).nots s from if_pos HV1.out]; exact HEQ.out _ HLI.out.2))
      go_wp2_with fail
      go_ret
      exact HQ.out
end
end Go.Proofs.YtddccnpohpaofaaGreatDoor
namespace Go.Proofs.YtddccnpohpaofaaGreatDoor

/-- A token that is to come: whether a blank stands ahead, its kind, its text. -/
structure Tk where
  b : Bool
  k : Nat
  t : List UInt8
def txK1 (t : Tk) : List UInt8 := (if t.b then [32] else []) ++ t.t
def txK (A : List Tk) : List UInt8 := A.flatMap txK1
theorem txK_app (A B : List Tk) : txK (A ++ B) = txK A ++ txK B := by simp [txK]
theorem txK_cons (t : Tk) (A : List Tk) : txK (t :: A) = txK1 t ++ txK A := by simp [txK]
theorem txK_nil : txK [] = [] := rfl
/-- With a blank ahead. -/
def ldK : List Tk → List Tk
  | [] => []
  | t :: l => { t with b := true } :: l
def wrapK (op : Int) (A : List Tk) (least : Nat) : List Tk := if levS op < least then ⟨false, 4, [40]⟩ :: (A ++ [⟨false, 4, [41]⟩]) else A
def nodeK (op : Int) (nm : List UInt8) (nu : Int) (ys : Bool) (k : List (Int × List Tk)) : List Tk :=
  let K := fun j least => wrapK (k.getD j (1, [])).1 (k.getD j (1, [])).2 least
  if op = 1 then [⟨false, 3, Zd.txtL nu⟩] else if op = 2 then [⟨false, 2, if ys then [116, 114, 117, 101] else [102, 97, 108, 115, 101]⟩] else if op = 3 then [⟨false, 1, nm⟩] else if op = 4 then [⟨false, 2, [114, 101, 115]⟩]
  else if op = 5 then ⟨false, 4, [45]⟩ :: K 0 9 else if op = 6 then ⟨false, 2, [110, 111, 116]⟩ :: ldK (K 0 4)
  else K 0 (sideA (levS op)) ++ ⟨true, 4, signS op⟩ :: ldK (K 1 (sideB (levS op)))
mutual
def tkS : Sx → List Tk
  | .mk op nm _ nu ys ks _ => nodeK op nm nu ys (tkSs ks)
def tkSs : List Sx → List (Int × List Tk)
  | [] => []
  | x :: l => (x.op, tkS x) :: tkSs l
end
def wK (x : Sx) (least : Nat) : List Tk := wrapK x.op (tkS x) least

/-- A right formula, by its form. -/
inductive Fml : Sx → Prop
  | lit (nu ps : Int) : 0 ≤ nu → (Zd.txtL nu).length ≤ 60 → Fml (.mk 1 [] [] nu false [] ps)
  | tru (ys : Bool) (ps : Int) : Fml (.mk 2 [] [] 0 ys [] ps)
  | var (nm : List UInt8) (ps : Int) : plainB nm = true → Fml (.mk 3 nm [] 0 false [] ps)
  | res (ps : Int) : Fml (.mk 4 [] [] 0 false [] ps)
  | neg (a : Sx) (ps : Int) : Fml a → Fml (.mk 5 [] [] 0 false [a] ps)
  | not (a : Sx) (ps : Int) : Fml a → Fml (.mk 6 [] [] 0 false [a] ps)
  | bin (op : Int) (a b : Sx) (ps : Int) : 7 ≤ op → op ≤ 20 → Fml a → Fml b → Fml (.mk op [] [] 0 false [a, b] ps)

theorem fm_of : ∀ (n : Nat) (x : Sx), sizS x ≤ n → rightB true x = true → Fml x := by
  intro n
  induction n with
  | zero => intro x h; have := sizS_pos x; omega
  | succ n ih =>
    intro x hn hr
    cases x with
    | mk op nm md nu ys ks ps =>
      simp only [sizS] at hn
      simp only [rightB, aloneB, mayB, Bool.and_eq_true, if_true, decide_eq_true_eq] at hr
      obtain ⟨⟨h21, ⟨⟨⟨⟨h1, h24⟩, hc⟩, hnm⟩, hnu⟩, hys⟩, hks⟩ := hr
      have hkid : ∀ a, a ∈ ks → Fml a := fun a ha => by
        obtain ⟨j, hj⟩ := List.getElem?_of_mem ha
        have h2 := sizSs_mem hj
        exact ih a (by omega) (rightBs_mem hks hj)
      unfold countB at hc
      unfold namesB at hnm
      unfold numB at hnu
      by_cases e4 : op ≤ 4
      · rw [if_pos e4] at hc
        have : ks = [] := List.eq_nil_of_length_eq_zero (by simpa using hc)
        subst this
        obtain h | h | h | h : op = 1 ∨ op = 2 ∨ op = 3 ∨ op = 4 := by omega
        all_goals subst h
        all_goals simp at hnm hnu hys
        · obtain ⟨rfl, rfl⟩ := hnm
          subst hys
          exact .lit nu ps hnu.1 hnu.2
        · obtain ⟨rfl, rfl⟩ := hnm
          subst hnu
          exact .tru ys ps
        · obtain ⟨h1, rfl⟩ := hnm
          subst hnu; subst hys
          exact .var nm ps h1
        · obtain ⟨rfl, rfl⟩ := hnm
          subst hnu; subst hys
          exact .res ps
      · rw [if_neg e4] at hc
        rw [if_neg (by omega), if_neg (by omega)] at hnm
        rw [if_neg (by omega)] at hnu
        simp at hnm hnu hys
        obtain ⟨rfl, rfl⟩ := hnm
        subst hnu
        have hy : ys = false := by rcases hys with h | h; omega; exact h
        subst hy
        by_cases e6 : op ≤ 6
        · rw [if_pos e6] at hc
          obtain ⟨a, rfl⟩ : ∃ a, ks = [a] := List.length_eq_one_iff.1 (by simpa using hc)
          obtain h | h : op = 5 ∨ op = 6 := by omega
          · subst h; exact .neg a ps (hkid a (by simp))
          · subst h; exact .not a ps (hkid a (by simp))
        · rw [if_neg e6, if_pos (by omega)] at hc
          obtain ⟨a, b, rfl⟩ : ∃ a b, ks = [a, b] := by
            match ks, (show ks.length = 2 by simpa using hc) with
            | [a, b], _ => exact ⟨a, b, rfl⟩
          exact .bin op a b ps (by omega) (by omega) (hkid a (by simp)) (hkid b (by simp))

theorem tk_neg (a : Sx) (ps : Int) : tkS (.mk 5 [] [] 0 false [a] ps) = ⟨false, 4, [45]⟩ :: wK a 9 := by simp [tkS, tkSs, nodeK, wK]
theorem tk_not (a : Sx) (ps : Int) : tkS (.mk 6 [] [] 0 false [a] ps) = ⟨false, 2, [110, 111, 116]⟩ :: ldK (wK a 4) := by simp [tkS, tkSs, nodeK, wK]
theorem tk_bin {op : Int} (h1 : 7 ≤ op) (h2 : op ≤ 20) (a b : Sx) (ps : Int) : tkS (.mk op [] [] 0 false [a, b] ps) = wK a (sideA (levS op)) ++ ⟨true, 4, signS op⟩ :: ldK (wK b (sideB (levS op))) := by
  simp only [tkS, tkSs, nodeK]
  rw [if_neg (by omega), if_neg (by omega), if_neg (by omega), if_neg (by omega), if_neg (by omega), if_neg (by omega)]
  rfl
theorem tx_neg (a : Sx) (ps : Int) : txS (.mk 5 [] [] 0 false [a] ps) = 45 :: wrapS a 9 := by simp [txS, txSs, nodeT, wrapS]
theorem tx_not (a : Sx) (ps : Int) : txS (.mk 6 [] [] 0 false [a] ps) = [110, 111, 116] ++ 32 :: wrapS a 4 := by simp [txS, txSs, nodeT, wrapS]
theorem tx_bin {op : Int} (h1 : 7 ≤ op) (h2 : op ≤ 20) (a b : Sx) (ps : Int) : txS (.mk op [] [] 0 false [a, b] ps) = wrapS a (sideA (levS op)) ++ ([32] ++ signS op ++ [32]) ++ wrapS b (sideB (levS op)) := by
  simp only [txS, txSs, nodeT]
  rw [if_neg (by omega), if_neg (by omega), if_neg (by omega), if_neg (by omega), if_neg (by omega), if_neg (by omega), if_neg (by omega), if_neg (by omega), if_neg (by omega), if_neg (by omega)]
  rfl

theorem plain_ne {l : List UInt8} (h : plainB l = true) : l ≠ [] := by
  unfold plainB at h
  rintro rfl
  simp [firstE] at h
/-- The first token: no blank ahead; what it isn't at higher levels. -/
def HdK (lev : Nat) (A : List Tk) : Prop := ∃ t l, A = t :: l ∧ t.b = false ∧ t.t ≠ [] ∧ t.k ≠ 5 ∧ (t.k = 4 → t.t = [45] ∨ t.t = [40]) ∧ (t.k = 2 → t.t = [110, 111, 116] → lev ≤ 4) ∧ (t.k = 4 → t.t = [45] → lev ≤ 8) ∧ (t.k ≠ 4 → t.t.head? ≠ some 45)
theorem hdK_wrap {op : Int} {A : List Tk} {least : Nat} (h : HdK (levS op) A) : HdK least (wrapK op A least) := by
  unfold wrapK
  split
  · exact ⟨_, _, rfl, rfl, by simp, by simp, fun _ => .inr rfl, fun h => by simp at h, fun _ h => by simp at h, fun h => by simp at h⟩
  · obtain ⟨t, l, rfl, h1, h2, h3, h4, h5, h6, h7⟩ := h
    exact ⟨t, l, rfl, h1, h2, h3, h4, fun a b => by have := h5 a b; omega, fun a b => by have := h6 a b; omega, h7⟩
theorem HdK.app {lev : Nat} {A B : List Tk} (h : HdK lev A) : HdK lev (A ++ B) := by
  obtain ⟨t, l, rfl, h1⟩ := h
  exact ⟨t, l ++ B, rfl, h1⟩
theorem HdK.le {lev lev' : Nat} {A : List Tk} (h : HdK lev A) (hl : lev' ≤ lev) : HdK lev' A := by
  obtain ⟨t, l, rfl, h1, h2, h3, h4, h5, h6, h7⟩ := h
  exact ⟨t, l, rfl, h1, h2, h3, h4, fun a b => by have := h5 a b; omega, fun a b => by have := h6 a b; omega, h7⟩
theorem lev_bin {op : Int} (h1 : 7 ≤ op) (h2 : op ≤ 20) : levS op = 7 ∨ levS op = 6 ∨ levS op = 5 ∨ levS op = 3 ∨ levS op = 2 ∨ levS op = 1 := by
  unfold levS
  repeat' split
  all_goals omega
theorem hdK_of {x : Sx} (h : Fml x) : HdK (levS x.op) (tkS x) := by
  induction h with
  | lit nu ps h1 h2 =>
    obtain ⟨b, r, h, h9⟩ := txt_head nu
    exact ⟨⟨false, 3, Zd.txtL nu⟩, [], by simp [tkS, nodeK], rfl, by simp [h], by simp, by simp, by simp, by simp, fun _ e => by simp [h] at e; have := h9.1 e; omega⟩
  | tru ys ps => exact ⟨_, [], by simp [tkS, nodeK]; rfl, rfl, by cases ys <;> simp, by simp, by simp, fun _ h => by cases ys <;> simp at h, by simp, fun _ => by cases ys <;> simp⟩
  | var nm ps h => exact ⟨⟨false, 1, nm⟩, [], by simp [tkS, nodeK], rfl, plain_ne h, by simp, by simp, by simp, by simp, fun _ e => by
      unfold plainB at h
      obtain ⟨a, r, rfl, ha⟩ := first_let (of_decide_eq_true h).1
      simp at e
      exact (isLet_bl ha).2 e⟩
  | res ps => exact ⟨_, [], by simp [tkS, nodeK]; rfl, rfl, by simp, by simp, by simp, by simp, by simp, by simp⟩
  | neg a ps h ih => rw [tk_neg]; exact ⟨_, _, rfl, rfl, by simp, by simp, fun _ => .inl rfl, by simp, fun _ _ => by simp [Sx.op, levS], by simp⟩
  | not a ps h ih => rw [tk_not]; exact ⟨_, _, rfl, rfl, by simp, by simp, by simp, fun _ _ => by simp [Sx.op, levS], by simp, by simp⟩
  | bin op a b ps h1 h2 ha hb iha ihb =>
    rw [tk_bin h1 h2]
    refine HdK.app (HdK.le (hdK_wrap iha) ?_)
    show levS op ≤ _
    unfold sideA
    rcases lev_bin h1 h2 with h | h | h | h | h | h <;> rw [h] <;> decide
theorem ldK_text {lev : Nat} {A : List Tk} (h : HdK lev A) : txK (ldK A) = 32 :: txK A := by
  obtain ⟨t, l, rfl, h1, -⟩ := h
  simp [ldK, txK, txK1, h1]
theorem wK_hd {x : Sx} (h : Fml x) (least : Nat) : HdK least (wK x least) := hdK_wrap (hdK_of h)
theorem wK_text {x : Sx} (h : txK (tkS x) = txS x) (least : Nat) : txK (wK x least) = wrapS x least := by
  unfold wK wrapK wrapS wrapT
  split
  · simp [txK_cons, txK_app, txK1, h, txK_nil]
  · exact h
/-- The tokens' text is the formula's. -/
theorem tkS_text {x : Sx} (h : Fml x) : txK (tkS x) = txS x := by
  induction h with
  | lit nu ps h1 h2 => simp [tkS, nodeK, txS, nodeT, txK, txK1]
  | tru ys ps => simp [tkS, nodeK, txS, nodeT, txK, txK1]
  | var nm ps h => simp [tkS, nodeK, txS, nodeT, txK, txK1]
  | res ps => simp [tkS, nodeK, txS, nodeT, txK, txK1]
  | neg a ps h ih => rw [tk_neg, tx_neg, txK_cons, wK_text ih]; simp [txK1]
  | not a ps h ih => rw [tk_not, tx_not, txK_cons, ldK_text (wK_hd h 4), wK_text ih]; simp [txK1]
  | bin op a b ps h1 h2 ha hb iha ihb =>
    rw [tk_bin h1 h2, tx_bin h1 h2, txK_app, txK_cons, ldK_text (wK_hd hb _), wK_text iha, wK_text ihb]; simp [txK1]

/-- A token stands ahead of the rest, and no other one. -/
def TkOk (t : Tk) (R : List UInt8) : Prop := firstE (t.t ++ R) = (t.k, t.t.length) ∧ sk false (t.t ++ R) = 0 ∧ wrongE t.k t.t = 0 ∧ t.t ≠ [] ∧ t.k ≠ 5
def SeqR : List Tk → List UInt8 → Prop
  | [], _ => True
  | t :: l, R => TkOk t (txK l ++ R) ∧ SeqR l R
theorem seq_app : ∀ {A B : List Tk} {R : List UInt8}, SeqR A (txK B ++ R) → SeqR B R → SeqR (A ++ B) R
  | [], B, R, _, h => h
  | t :: A, B, R, h1, h2 => by
    simp only [List.cons_append, SeqR] at h1 ⊢
    refine ⟨?_, seq_app h1.2 h2⟩
    rw [txK_app, List.append_assoc]; exact h1.1
theorem seq_ld : ∀ {A : List Tk} {R : List UInt8}, SeqR A R → SeqR (ldK A) R
  | [], R, h => h
  | t :: A, R, h => h
theorem sk_bl {a : UInt8} {r : List UInt8} (h1 : isBl a = false) (h2 : ¬ (a = 45 ∧ r.head? = some 45)) : sk false (a :: r) = 0 := by
  simp only [sk, h1]; simp [h2]
theorem sk_one {r : List UInt8} (h : sk false r = 0) : sk false (32 :: r) = 1 := by
  simp only [sk, h]; rfl
/-- All the tokens, and the end. -/
theorem lex_seq : ∀ (A : List Tk) (f p : Nat), SeqR A [] → (txK A).length < f → ∃ L e, lexG f (txK A) p = (L ++ [e], 0, 0) ∧ e.kind = 5 ∧ L.map (fun k => (k.kind, k.text)) = A.map (fun t => (t.k, t.t))
  | [], f, p, _, hf => by
    obtain ⟨f, rfl⟩ : ∃ g, f = g + 1 := ⟨f - 1, by omega⟩
    have h := tok_nil p
    rw [txK_nil, lexG_end (by rw [h]; rfl) (by rw [h])]
    exact ⟨[], tokE [] p, rfl, by rw [h], rfl⟩
  | t :: A, f, p, h, hf => by
    obtain ⟨f, rfl⟩ : ∃ g, f = g + 1 := ⟨f - 1, by omega⟩
    simp only [SeqR, List.append_nil] at h
    obtain ⟨⟨h1, h2, h3, h4, h5⟩, h6⟩ := h
    have hb : ∃ B : List UInt8, txK (t :: A) = B ++ (t.t ++ txK A) ∧ sk false (B ++ (t.t ++ txK A)) = B.length := by
      rw [txK_cons]
      unfold txK1
      cases t.b
      · exact ⟨[], by simp, by simpa using h2⟩
      · exact ⟨[32], by simp, by simpa using sk_one h2⟩
    obtain ⟨B, hB, hs⟩ := hb
    rw [hB] at hf ⊢
    have hd : (B ++ (t.t ++ txK A)).drop (sk false (B ++ (t.t ++ txK A))) = t.t ++ txK A := by rw [hs, List.drop_left]
    have hk : (tokE (B ++ (t.t ++ txK A)) p).kind = t.k := by show (firstE _).1 = _; rw [hd, h1]
    have ht : (tokE (B ++ (t.t ++ txK A)) p).text = t.t := by show List.take (firstE _).2 _ = _; rw [hd, h1]; exact List.take_left
    have hst : stepE (B ++ (t.t ++ txK A)) = B.length + t.t.length := by unfold stepE; rw [hd, hs, h1]
    have hr : (B ++ (t.t ++ txK A)).drop (stepE (B ++ (t.t ++ txK A))) = txK A := by
      rw [hst, ← List.append_assoc, List.drop_append, List.length_append]; simp
    rw [lexG_more (by rw [hk, ht]; exact h3) (by rw [hk]; exact h5), hr]
    have hpos : 0 < t.t.length := List.length_pos_iff.2 h4
    obtain ⟨L, e, g1, g2, g3⟩ := lex_seq A f (p + stepE (B ++ (t.t ++ txK A))) h6 (by simp only [List.length_append] at hf; omega)
    rw [g1]
    exact ⟨tokE (B ++ (t.t ++ txK A)) p :: L, e, rfl, g2, by simp [g3, hk, ht]⟩

/-- No word and no number goes on there. -/
def NW (R : List UInt8) : Prop := ∀ b, R.head? = some b → inW b = false
theorem nw_cons {b : UInt8} {r : List UInt8} (h : inW b = false) : NW (b :: r) := fun c hc => by simp at hc; subst hc; exact h
theorem rt8 {P : UInt8 → Prop} (h : ∀ n, n < 256 → P (UInt8.ofNat n)) (b : UInt8) : P b := by
  have := h b.toNat b.toNat_lt
  rwa [UInt8.ofNat_toNat] at this
theorem dig_inW {b : UInt8} (h : isDig b = true) : inW b = true ∧ isLet b = false := by
  have e : ∀ b : UInt8, isDig b = true → inW b = true ∧ isLet b = false := rt8 (by decide +kernel)
  exact e b h
theorem ok_word {t R : List UInt8} {b : Bool} {k : Nat} (h : (firstE t).1 = k) (hk : k = 1 ∨ k = 2) (hl : (firstE t).2 = t.length) (hw : wrongE k t = 0) (hR : NW R) : TkOk ⟨b, k, t⟩ R := by
  cases t with
  | nil => rcases hk with rfl | rfl <;> simp [firstE] at h
  | cons a r =>
    rw [firstE_cons] at h hl
    by_cases hc : isLet a = true
    · rw [if_pos hc] at h hl
      have hall : (∀ c ∈ a :: r, inW c = true) ∧ _ := runN_inv inW (T := a :: r) (X := []) (by simpa using hl)
      have hr2 := runN_all inW (T := a :: r) (X := R) hall.1 hR
      have hb := isLet_bl hc
      refine ⟨?_, sk_bl hb.1 (fun e => hb.2 e.1), hw, by simp, by rcases hk with rfl | rfl <;> simp⟩
      show firstE (a :: (r ++ R)) = _
      rw [firstE_cons, if_pos hc]
      have e : runN inW (a :: (r ++ R)) = (a :: r).length := hr2
      rw [e]
      have e2 : (a :: (r ++ R)).take (a :: r).length = a :: r := List.take_left (l₁ := a :: r) (l₂ := R)
      have e3 : (a :: r).take (runN inW (a :: r)) = a :: r := by rw [show runN inW (a :: r) = (a :: r).length from hl, List.take_length]
      rw [e2]
      simp only [] at h
      rw [e3] at h
      rw [h]
    · rw [if_neg hc] at h
      split at h
      · simp at h; omega
      · split at h <;> simp at h <;> omega
theorem ok_num {t R : List UInt8} {b : Bool} (h : numOk t) (hR : NW R) : TkOk ⟨b, 3, t⟩ R := by
  obtain ⟨h1, h2, h3, h4⟩ := h
  have hR2 : ∀ c, R.head? = some c → isDig c = false := fun c hc => by
    have := hR c hc
    cases hd : isDig c
    · rfl
    · have := (dig_inW hd).1; simp_all
  have hr := runN_all isDig (T := t) (X := R) h3 hR2
  cases t with
  | nil => simp at h1
  | cons a r =>
    have ha := h3 a (by simp)
    have e : ∀ a : UInt8, isDig a = true → isBl a = false ∧ a ≠ 45 := rt8 (by decide +kernel)
    refine ⟨?_, sk_bl (e a ha).1 (fun e2 => (e a ha).2 e2.1), ?_, by simp, by simp⟩
    · show firstE (a :: (r ++ R)) = _
      rw [firstE_cons, if_neg (by simp [(dig_inW ha).2]), if_pos ha]
      rw [show runN isDig (a :: (r ++ R)) = (a :: r).length from hr]
    · unfold wrongE
      rw [if_neg (by simp), if_neg]
      rintro ⟨-, h | ⟨h, h5⟩⟩
      · simp at h h2; omega
      · exact h4 h h5
/-- One byte that is a sign, whatever stands behind. -/
theorem ok_sign1 {a : UInt8} {R : List UInt8} {b : Bool} (ha : a ∈ onesL) (hl : isLet a = false) (hd : isDig a = false) (hb : isBl a = false) (h2 : ∀ g ∈ twosL, g.isPrefixOf (a :: R) = false) (h45 : a = 45 → R.head? ≠ some 45) : TkOk ⟨b, 4, [a]⟩ R := by
  refine ⟨?_, sk_bl hb (fun e => h45 e.1 e.2), by simp [wrongE], by simp, by simp⟩
  show firstE (a :: R) = _
  have h1 := signN_one (r := R) h2 ha
  rw [firstE_cons, if_neg (by simp [hl]), if_neg (by simp [hd]), h1]
  rfl
theorem ok_sign2 {a c : UInt8} {R : List UInt8} {b : Bool} (ha : [a, c] ∈ twosL) (hl : isLet a = false) (hd : isDig a = false) (hb : isBl a = false) (h45 : a ≠ 45) : TkOk ⟨b, 4, [a, c]⟩ R := by
  refine ⟨?_, sk_bl hb (fun e => h45 e.1), by simp [wrongE], by simp, by simp⟩
  show firstE (a :: c :: R) = _
  have h1 := signN_two (l := a :: c :: R) ha (by simp [List.isPrefixOf])
  rw [firstE_cons, if_neg (by simp [hl]), if_neg (by simp [hd]), h1]
  rfl
/-- A sign ahead of a blank. -/
theorem ok_op {op : Int} (h1 : 7 ≤ op) (h2 : op ≤ 20) {R : List UInt8} {b : Bool} : TkOk ⟨b, 4, signS op⟩ (32 :: R) := by
  obtain h | h | h | h | h | h | h | h | h | h | h | h | h | h : op = 7 ∨ op = 8 ∨ op = 9 ∨ op = 10 ∨ op = 11 ∨ op = 12 ∨ op = 13 ∨ op = 14 ∨ op = 15 ∨ op = 16 ∨ op = 17 ∨ op = 18 ∨ op = 19 ∨ op = 20 := by omega
  all_goals subst h
  all_goals first
    | exact ok_sign1 (by decide) (by decide) (by decide) (by decide) (by intro g hg; simp only [twosL, List.mem_cons, List.not_mem_nil, or_false] at hg; rcases hg with rfl | rfl | rfl | rfl | rfl | rfl <;> simp [List.isPrefixOf]) (by simp)
    | exact ok_sign2 (by decide) (by decide) (by decide) (by decide) (by decide)
theorem ok_open {R : List UInt8} {b : Bool} : TkOk ⟨b, 4, [40]⟩ R :=
  ok_sign1 (by decide) (by decide) (by decide) (by decide) (by intro g hg; simp only [twosL, List.mem_cons, List.not_mem_nil, or_false] at hg; rcases hg with rfl | rfl | rfl | rfl | rfl | rfl <;> simp [List.isPrefixOf]) (by simp)
theorem ok_shut {R : List UInt8} {b : Bool} : TkOk ⟨b, 4, [41]⟩ R :=
  ok_sign1 (by decide) (by decide) (by decide) (by decide) (by intro g hg; simp only [twosL, List.mem_cons, List.not_mem_nil, or_false] at hg; rcases hg with rfl | rfl | rfl | rfl | rfl | rfl <;> simp [List.isPrefixOf]) (by simp)
theorem ok_minus {R : List UInt8} {b : Bool} (h : R.head? ≠ some 45) : TkOk ⟨b, 4, [45]⟩ R :=
  ok_sign1 (by decide) (by decide) (by decide) (by decide) (by intro g hg; simp only [twosL, List.mem_cons, List.not_mem_nil, or_false] at hg; rcases hg with rfl | rfl | rfl | rfl | rfl | rfl <;> simp [List.isPrefixOf]) (fun _ => h)
end Go.Proofs.YtddccnpohpaofaaGreatDoor
