/- Lemmas. -/
import Derived.Test.YtccokidhngdjnaaGreatDoorP19
import Derived.Test.YtccokidhngdjnaaGreatDoorP29
import Derived.Test.YtccokidhngdjnaaGreatDoorP48
set_option linter.unusedVariables false
set_option linter.unusedSimpArgs false
namespace Go.Proofs.YtccokidhngdjnaaGreatDoor
open Go.RowKit

mutual
theorem right_fit {f : Bool} : ∀ {x : Sx}, rightB f x = true → okS x → fitS x
  | .mk op nm md nu ys ks ps, h, ho => by
    simp only [rightB, aloneB, Bool.and_eq_true] at h
    simp only [okS] at ho
    simp only [fitS]
    exact ⟨⟨of_decide_eq_true h.1.2.1.1.1.1.1, of_decide_eq_true h.1.2.1.1.1.1.2, h.1.2.1.1.1.2, ho.1.1, ho.1.2.1, ho.1.2.2⟩, right_fits h.2 ho.2⟩
theorem right_fits {f : Bool} : ∀ {l : List Sx}, rightBs f l = true → okSs l → fitSs l
  | [], _, _ => by simp [fitSs]
  | x :: l, h, ho => by
    simp only [rightBs, Bool.and_eq_true] at h
    simp only [okSs] at ho
    simp only [fitSs]
    exact ⟨right_fit h.1 ho.1, right_fits h.2 ho.2⟩
end
theorem fr_gb {w w' : World} {S : Nat → Prop} (h : Fr2 S w w') (hS : ∀ k, S k → w.heap.size ≤ k) : w.grownBy w' none := below_gb (h.below (Nat.le_refl _) hS)
theorem LaidW.lt {w : World} (h : LaidW w) : 3 < w.heap.size := by
  have := h 0 _ rfl
  rcases Nat.lt_or_ge 3 w.heap.size with h1 | h1
  · exact h1
  · exfalso; simp [World.cell?, Array.getElem?_eq_none h1] at this
set_option maxRecDepth 100000 in
set_option maxHeartbeats 16000000 in
theorem exprText_c (F : Nat → Prop) (g o : Nat) (x : Sx) (q : List Value) (w : World) (hla : LaidW w) (hx : SAt F w x q) (hF : ∀ k, F k → k < w.heap.size) (hg : g < w.heap.size) (hc : ∀ i v, q[i]? = some v → w.cell? ⟨g, o + i, none⟩ = some v) (hfit : fitS x) (hwg : wgS x ≤ 500000) (ht : (txS x).length ≤ 1000000000) :
    Calls Tryz.prog 15 #[.pointer (some ⟨g, o, none⟩)] w (fun e w' => e = .returned (.string ⟨(txS x).toArray⟩) ∧ w.grownBy w' none) := by
  have hga := World.grownBy_alloc w (.cells #[.slice none 0 0] 77) none
  have hW : WrAt (fun k => k < w.heap.size) (w.heap.size + 1) w.heap.size (w.alloc (.cells #[.slice none 0 0] 77)) [] :=
    ⟨.slice none 0 0, heap_alloc_new w _, OwnG.nil _ _ _ _, by omega, by simp, by omega, fun k hk => by simp [Value.ownBlock] at hk, fun k hk => by simp; omega⟩
  have HE := Lib.hid (expr_c9 _ _ _ [] (some ⟨g, o, none⟩) (0 : Int) _ hW (by simp))
  have HT : Hid (∀ w2, WrAt (fun k => k < w.heap.size) (w.heap.size + 1) w.heap.size w2 [rowX g o 0] → Fr2 (fun k => ¬ k < w.heap.size) w w2 → Calls Tryz.prog 32 #[.pointer (some ⟨w.heap.size, 0, none⟩)] w2 (fun e w' => e = .returned (.string ⟨(txS x).toArray⟩) ∧ Fr2 (fun k => ¬ k < w.heap.size) w2 w')) := Lib.hid (fun w2 h2 hf => by
    have hp : PcsAt (fun k => F k ∨ k = g) w2 [.ex x 0] [rowX g o 0] := ⟨_, _, rfl, ⟨g, o, q, rfl, .inr rfl, Nat.lt_of_lt_of_le hg hf.size, (hx.same hf (fun k hk e => e (hF k hk))).mono (fun k hk => .inl hk), fun i v hi => by rw [World.cell?_of_block (w := w) (hf.block g hg (fun e => e hg))]; exact hc i v hi⟩, rfl⟩
    have htx : textPs [.ex x 0] = txS x := by simp [textPs, textP, wrapS, wrapT0]
    have := text_c9 (fun k => k < w.heap.size) (fun k => F k ∨ k = g) (w.heap.size + 1) w.heap.size [rowX g o 0] [.ex x 0] w2 h2 hp (by simp) (by simp [wgPs, wgP]; exact hwg) (by simp) (fun k hk => by rcases hk with hk | rfl; exact hF k hk; exact hg) hla.lt (hla.same hf hla.lt hla.lt) (fun p hp => by simp at hp; subst hp; exact hfit) (by rw [htx]; exact ht)
    rw [htx] at this
    exact this)
  have HG := Lib.hid hga
  clear hla hx hF hc hfit hwg ht hW hga
  obtain ⟨T, hT⟩ : ∃ T, txS x = T := ⟨_, rfl⟩
  rw [hT] at HT ⊢
  clear hT
  go_enter Tryz.func15, Tryz.ntmps15
  go_wp2_with fail
  refine HE.out.mono ?_
  rintro e w2 ⟨rfl, hw2, hf2⟩
  have hf : Fr2 (fun k => ¬ k < w.heap.size) w w2 := (Fr2.none HG.out).trans hf2
  have HT2 := Lib.hid (HT.out w2 hw2 hf)
  have HF := Lib.hid hf
  clear hw2 hf2 hf HT HE
  go_wp2_with fail
  refine HT2.out.mono ?_
  rintro e w3 ⟨rfl, hf3⟩
  have HG3 := Lib.hid (fr_gb (HF.out.trans hf3) (fun k hk => by omega))
  clear hf3
  go_wp2_with fail
  go_ret
  exact ⟨rfl, HG3.out⟩

set_option maxRecDepth 100000 in
set_option maxHeartbeats 16000000 in
theorem isFormula_c (F : Nat → Prop) (a0 : Addr) (x0 : Sx) (q0 : List Value) (w : World) (hla : LaidE w) (hc : CAt w a0 q0) (hx : SAt F w x0 q0) (hsz : sizS x0 ≤ 1000000) (hok : okS x0) (hF : ∀ k, F k → k < w.heap.size) :
    Calls Tryz.prog 14 #[.pointer (some a0)] w (TruePost (rightB true x0) w) := by
  have HR := Lib.hid (isRight_c true 30 (.inl ⟨rfl, rfl⟩) F a0 x0 q0 w hla hc hx hsz hok hF)
  clear hla hc hx hsz hok hF
  go_enter Tryz.func14, Tryz.ntmps14
  go_wp2_with fail
  refine HR.out.mono ?_
  rintro e w2 ⟨rfl, hg⟩
  have HG := Lib.hid hg
  clear hg
  go_wp2_with fail
  go_ret
  exact ⟨rfl, HG.out⟩

set_option maxRecDepth 100000 in
set_option maxHeartbeats 16000000 in
theorem isBody_c (F : Nat → Prop) (a0 : Addr) (x0 : Sx) (q0 : List Value) (w : World) (hla : LaidE w) (hc : CAt w a0 q0) (hx : SAt F w x0 q0) (hsz : sizS x0 ≤ 1000000) (hok : okS x0) (hF : ∀ k, F k → k < w.heap.size) :
    Calls Tryz.prog 16 #[.pointer (some a0)] w (TruePost (rightB false x0) w) := by
  have HR := Lib.hid (isRight_c false 33 (.inr ⟨rfl, rfl⟩) F a0 x0 q0 w hla hc hx hsz hok hF)
  clear hla hc hx hsz hok hF
  go_enter Tryz.func16, Tryz.ntmps16
  go_wp2_with fail
  refine HR.out.mono ?_
  rintro e w2 ⟨rfl, hg⟩
  have HG := Lib.hid hg
  clear hg
  go_wp2_with fail
  go_ret
  exact ⟨rfl, HG.out⟩
/-- What is told of an expression's text: it, or an error. -/
def ShowPost (f : Bool) (x : Sx) (w : World) (e : Ending) (w' : World) : Prop := e = .returned (.tuple #[.string ⟨(if rightB f x then txS x else []).toArray⟩, .int .i64 (if rightB f x then 0 else 10)]) ∧ w.grownBy w' none

set_option maxRecDepth 100000 in
set_option maxHeartbeats 16000000 in
theorem Formula_c (F : Nat → Prop) (x : Sx) (q : List Value) (w : World) (hla : LaidE w) (hlw : LaidW w) (hx : SAt F w x q) (hF : ∀ k, F k → k < w.heap.size) (hsz : sizS x ≤ 1000000) (hok : okS x) (hwg : wgS x ≤ 500000) (ht : (txS x).length ≤ 1000000000) :
    Calls Tryz.prog 6 #[.agg q.toArray] w (ShowPost true x w) := by
  have hga := World.grownBy_alloc w (.cells q.toArray 30) none
  have hbk := heap_alloc_new w (.cells q.toArray 30)
  have hcs : ∀ i v, q[i]? = some v → (w.alloc (.cells q.toArray 30)).cell? ⟨w.heap.size, 0 + i, none⟩ = some v := fun i v hi => by
    rw [Nat.zero_add, cell_of_row _ w.heap.size i _ _ (0, 0) hbk]; simpa using hi
  have hsz1 : (w.alloc (.cells q.toArray 30)).heap.size = w.heap.size + 1 := by simp
  have hx1 := hx.kept hga
  have hF1 : ∀ k, F k → k < (w.alloc (.cells q.toArray 30)).heap.size := fun k hk => by have := hF k hk; omega
  have HI := Lib.hid (isFormula_c F ⟨w.heap.size, 0, none⟩ x q _ (hla.kept hga) ⟨_, _, rfl, ⟨by omega, _, _, hbk⟩, hcs⟩ hx1 hsz hok hF1)
  have HT : Hid (rightB true x = true → ∀ w2, (w.alloc (.cells q.toArray 30)).grownBy w2 none → Calls Tryz.prog 15 #[.pointer (some ⟨w.heap.size, 0, none⟩)] w2 (fun e w' => e = .returned (.string ⟨(txS x).toArray⟩) ∧ w2.grownBy w' none)) := Lib.hid (fun hr w2 hg => by
    refine exprText_c F w.heap.size 0 x q w2 (fun j l hj => hg.cell (hga.cell (hlw j l hj) (by simp)) (by simp)) (hx1.kept hg) (fun k hk => Nat.lt_of_lt_of_le (hF1 k hk) hg.size) (Nat.lt_of_lt_of_le (by omega) hg.size) (fun i v hi => hg.cell (hcs i v hi) (by simp)) (right_fit hr hok) hwg ht)
  obtain ⟨v0, v1, v2, v3, v4, v5, v6, v7, rfl⟩ : ∃ v0 v1 v2 v3 v4 v5 v6 v7, q = [v0, v1, v2, v3, v4, v5, v6, v7] := by
    have := hx.len
    match q, this with
    | [v0, v1, v2, v3, v4, v5, v6, v7], _ => exact ⟨_, _, _, _, _, _, _, _, rfl⟩
  have HG := Lib.hid hga
  clear hla hlw hx hF hsz hok hwg ht hga hbk hcs hsz1 hx1 hF1
  unfold ShowPost
  obtain ⟨T, hT⟩ : ∃ T, txS x = T := ⟨_, rfl⟩
  obtain ⟨r, hr⟩ : ∃ r, rightB true x = r := ⟨_, rfl⟩
  rw [hT] at HT ⊢
  rw [hr] at HT HI ⊢
  clear hT hr
  go_enter Tryz.func6, Tryz.ntmps6
  go_wp2_with fail
  refine HI.out.mono ?_
  rintro e w2 ⟨rfl, hg2⟩
  have HT2 := Lib.hid (fun hr => HT.out hr w2 hg2)
  have HG2 := Lib.hid (gb_trans HG.out hg2)
  clear hg2 HT HI HG
  cases r with
  | false =>
    go_wp2_with fail
    go_ret2
    exact ⟨rfl, HG2.out⟩
  | true =>
    go_wp2_with fail
    refine (HT2.out trivial).mono ?_
    rintro e w3 ⟨rfl, hg3⟩
    have HG3 := Lib.hid (gb_trans HG2.out hg3)
    clear hg3
    go_wp2_with fail
    go_ret2
    exact ⟨rfl, HG3.out⟩

set_option maxRecDepth 100000 in
set_option maxHeartbeats 16000000 in
theorem Body_c (F : Nat → Prop) (x : Sx) (q : List Value) (w : World) (hla : LaidE w) (hlw : LaidW w) (hx : SAt F w x q) (hF : ∀ k, F k → k < w.heap.size) (hsz : sizS x ≤ 1000000) (hok : okS x) (hwg : wgS x ≤ 500000) (ht : (txS x).length ≤ 1000000000) :
    Calls Tryz.prog 7 #[.agg q.toArray] w (ShowPost false x w) := by
  have hga := World.grownBy_alloc w (.cells q.toArray 30) none
  have hbk := heap_alloc_new w (.cells q.toArray 30)
  have hcs : ∀ i v, q[i]? = some v → (w.alloc (.cells q.toArray 30)).cell? ⟨w.heap.size, 0 + i, none⟩ = some v := fun i v hi => by
    rw [Nat.zero_add, cell_of_row _ w.heap.size i _ _ (0, 0) hbk]; simpa using hi
  have hsz1 : (w.alloc (.cells q.toArray 30)).heap.size = w.heap.size + 1 := by simp
  have hx1 := hx.kept hga
  have hF1 : ∀ k, F k → k < (w.alloc (.cells q.toArray 30)).heap.size := fun k hk => by have := hF k hk; omega
  have HI := Lib.hid (isBody_c F ⟨w.heap.size, 0, none⟩ x q _ (hla.kept hga) ⟨_, _, rfl, ⟨by omega, _, _, hbk⟩, hcs⟩ hx1 hsz hok hF1)
  have HT : Hid (rightB false x = true → ∀ w2, (w.alloc (.cells q.toArray 30)).grownBy w2 none → Calls Tryz.prog 15 #[.pointer (some ⟨w.heap.size, 0, none⟩)] w2 (fun e w' => e = .returned (.string ⟨(txS x).toArray⟩) ∧ w2.grownBy w' none)) := Lib.hid (fun hr w2 hg => by
    refine exprText_c F w.heap.size 0 x q w2 (fun j l hj => hg.cell (hga.cell (hlw j l hj) (by simp)) (by simp)) (hx1.kept hg) (fun k hk => Nat.lt_of_lt_of_le (hF1 k hk) hg.size) (Nat.lt_of_lt_of_le (by omega) hg.size) (fun i v hi => hg.cell (hcs i v hi) (by simp)) (right_fit hr hok) hwg ht)
  obtain ⟨v0, v1, v2, v3, v4, v5, v6, v7, rfl⟩ : ∃ v0 v1 v2 v3 v4 v5 v6 v7, q = [v0, v1, v2, v3, v4, v5, v6, v7] := by
    have := hx.len
    match q, this with
    | [v0, v1, v2, v3, v4, v5, v6, v7], _ => exact ⟨_, _, _, _, _, _, _, _, rfl⟩
  have HG := Lib.hid hga
  clear hla hlw hx hF hsz hok hwg ht hga hbk hcs hsz1 hx1 hF1
  unfold ShowPost
  obtain ⟨T, hT⟩ : ∃ T, txS x = T := ⟨_, rfl⟩
  obtain ⟨r, hr⟩ : ∃ r, rightB false x = r := ⟨_, rfl⟩
  rw [hT] at HT ⊢
  rw [hr] at HT HI ⊢
  clear hT hr
  go_enter Tryz.func7, Tryz.ntmps7
  go_wp2_with fail
  refine HI.out.mono ?_
  rintro e w2 ⟨rfl, hg2⟩
  have HT2 := Lib.hid (fun hr => HT.out hr w2 hg2)
  have HG2 := Lib.hid (gb_trans HG.out hg2)
  clear hg2 HT HI HG
  cases r with
  | false =>
    go_wp2_with fail
    go_ret2
    exact ⟨rfl, HG2.out⟩
  | true =>
    go_wp2_with fail
    refine (HT2.out trivial).mono ?_
    rintro e w3 ⟨rfl, hg3⟩
    have HG3 := Lib.hid (gb_trans HG2.out hg3)
    clear hg3
    go_wp2_with fail
    go_ret2
    exact ⟨rfl, HG3.out⟩

def wholeI (l : List TokI) : List UInt8 := l.flatMap fun t => t.lead ++ t.text

theorem wholeI_append (l r : List TokI) : wholeI (l ++ r) = wholeI l ++ wholeI r := by unfold wholeI; rw [List.flatMap_append]
theorem wholeI_next {l : List TokI} {k : Nat} {t : TokI} (h : l[k]? = some t) : wholeI (l.take (k + 1)) = wholeI (l.take k) ++ t.lead ++ t.text := by
  rw [List.take_add_one, h, wholeI_append]; simp [wholeI]
theorem wholeI_take (l : List TokI) (k : Nat) : (wholeI (l.take k)).length ≤ (wholeI l).length := by
  have h1 : wholeI l = wholeI (l.take k) ++ wholeI (l.drop k) := by rw [← wholeI_append, List.take_append_drop]
  rw [h1, List.length_append]; omega

set_option maxRecDepth 100000 in
set_option maxHeartbeats 8000000 in
theorem WholeI_c (q : Option Addr) (c : Nat) (l : List TokI) (w : World) (hl : l.length ≤ 1000000) (hL : (wholeI l).length ≤ 1000000) (h : ToksAt w q l) : Calls Tryz.prog 92 #[.slice q l.length c] w (StrGb (wholeI l) w) := by
  obtain ⟨m, hm⟩ : ∃ m, l.length = m := ⟨_, rfl⟩
  have HM := Lib.hid hm; have HA := Lib.hid h; have HL := Lib.hid hL
  rw [hm] at hl ⊢
  clear hm h hL
  go_enter Tryz.func92, Tryz.ntmps92
  go_wp2_with fail
  have hbl := bld_new w w.heap.size (Nat.le_refl _)
  have hga := World.grownBy_alloc w (.cells #[.pointer none, .slice none 0 0] 107) none
  generalize (w.alloc (.cells #[.pointer none, .slice none 0 0] 107)) = W at *
  obtain ⟨b, hb⟩ : ∃ b, w.heap.size = b := ⟨_, rfl⟩
  have HBB := Lib.hid hb
  rw [hb] at hbl ⊢
  have HBL := Lib.hid hbl; have HGA := Lib.hid hga
  clear hbl hga hb
  go_loopw [8] (fun i wr => ∃ k : Nat, k ≤ m ∧ i = .int .i64 k ∧ Hid (Lib.IsBuilder 107 5 b b (Lib.byteCells (wholeI (l.take k))) wr) ∧ Hid (w.grownBy wr none)) (fun i _ => m - (intOf i).toNat)
  case atStart => exact ⟨0, Nat.zero_le _, rfl, HBL, HGA⟩
  case round =>
    clear HBL HGA
    obtain ⟨k, hk, rfl, HBL, HG⟩ := hrel
    by_cases hlt : k < m
    · have d1 : decide ((k : Int) < (m : Int)) = true := decide_eq_true (by omega)
      have d1' : decide (k < m) = true := decide_eq_true hlt
      obtain ⟨t, ht⟩ : ∃ t, l[k]? = some t := ⟨l[k]'(by rw [HM.out]; exact hlt), List.getElem?_eq_getElem _⟩
      obtain ⟨g, off, rfl, hgl, c0, c1, c2, c3⟩ := tok_at HA.out ht
      have c0 := HG.out.cell c0 (by simp)
      have c1 := HG.out.cell c1 (by simp)
      have c2 := HG.out.cell c2 (by simp)
      have c3 := HG.out.cell c3 (by simp)
      have hnx := wholeI_next ht
      have hle1 := wholeI_take l k
      have hle2 := wholeI_take l (k + 1)
      have hL := HL.out
      rw [hnx] at hle2
      simp only [List.length_append] at hle2
      obtain ⟨x, hx⟩ : ∃ x : ByteArray, (⟨t.lead.toArray⟩ : ByteArray) = x := ⟨_, rfl⟩
      obtain ⟨y, hy⟩ : ∃ y : ByteArray, (⟨t.text.toArray⟩ : ByteArray) = y := ⟨_, rfl⟩
      have hxl : x.data.toList = t.lead := by rw [← hx]
      have hyl : y.data.toList = t.text := by rw [← hy]
      have hxs : x.size = t.lead.length := by rw [← list_len, hxl]
      have hys : y.size = t.text.length := by rw [← list_len, hyl]
      unfold strV at c1 c2
      rw [hx] at c1
      rw [hy] at c2
      have HNX : Hid (Lib.byteCells (wholeI (l.take (k + 1))) = Lib.byteCells (wholeI (l.take k)) ++ Lib.strCells x ++ Lib.strCells y) := Lib.hid (by
        rw [hnx, Lib.byteCells_append, Lib.byteCells_append, ← strCells_mk t.lead, ← strCells_mk t.text, hx, hy])
      have HZ1 : Hid ((Lib.byteCells (wholeI (l.take k))).length + x.size ≤ 140737488355328) := Lib.hid (by rw [Lib.byteCells_length]; omega)
      have HZ2 : Hid ((Lib.byteCells (wholeI (l.take k)) ++ Lib.strCells x).length + y.size ≤ 140737488355328) := Lib.hid (by rw [List.length_append, Lib.byteCells_length, Lib.strCells_length]; omega)
      have HBX := Lib.hid (heap_alloc_new wr (.cells #[.int .i64 t.kind, .string x, .string y, .int .i64 t.pos] 123))
      have hga := World.grownBy_alloc wr (.cells #[.int .i64 t.kind, .string x, .string y, .int .i64 t.pos] 123) none
      have HB2 := Lib.hid (bld_kept HBL.out hga)
      have HG2 := Lib.hid (gb_trans HG.out hga)
      have HXS : Hid (b < wr.heap.size) := Lib.hid (by
        rcases HBL.out with h | h
        · exact h.lt
        · exact h.lt)
      obtain ⟨b0, b1, b2, b3, b4⟩ := cells4 HBX.out
      generalize t.kind = tk at *
      generalize t.pos = tp at *
      clear hgl ht hnx hle1 hle2 hL hx hy hxl hyl hxs hys hga HBL HG b4
      go_wp2_with fail
      refine (WriteString_c b b _ x _ HB2.out HZ1.out (by have := HG2.out.size; rw [HBB.out] at this; exact this)).mono ?_
      rintro e w2 ⟨rfl, ⟨hb2, hbe2⟩, hok2⟩
      have HB3 := Lib.hid hb2
      have hgg : w.grownBy w2 none := below_gb (Below.trans2 (gb_below HG2.out) (by rw [HBB.out]; exact hbe2))
      have HG3 := Lib.hid hgg
      have hbx2 := hok2 _ _ _ HBX.out (by decide) (by have := HXS.out; omega)
      obtain ⟨e0, e1, e2, e3, e4⟩ := cells4 hbx2
      clear hb2 hbe2 hok2 hgg hbx2 b0 b1 b2 b3 c0 c1 c2 c3 HB2 e4
      go_wp2_with fail
      refine (WriteString_c b b _ y _ (.inr HB3.out) HZ2.out (by have := HG3.out.size; rw [HBB.out] at this; exact this)).mono ?_
      rintro e w3 ⟨rfl, ⟨hb3, hbe3⟩, -⟩
      rw [← HNX.out] at hb3
      have HB4 : Hid (Lib.IsBuilder 107 5 b b (Lib.byteCells (wholeI (l.take (k + 1)))) w3) := Lib.hid (.inr hb3)
      have hgg : w.grownBy w3 none := below_gb (Below.trans2 (gb_below HG3.out) (by rw [HBB.out]; exact hbe3))
      have HG4 := Lib.hid hgg
      clear hb3 hbe3 hgg HB3 HG2 HG3 e0 e1 e2 e3
      go_wp2_with fail
      go_roundw
      case rel => exact ⟨k + 1, by omega, by go_num, HB4, HG4⟩
      case measure => (simp [intOf] <;> omega)
    · obtain rfl : k = m := by omega
      rw [List.take_of_length_le (by rw [HM.out]; exact Nat.le_refl _)] at HBL
      have HSTR := Lib.hid (Tryz.Builder_String_any_k b b _ wr (Lib.IsBuilderF.of HBL.out) (by have := HG.out.size; rw [HBB.out] at this; exact this))
      go_wp2_with fail
      refine HSTR.out.mono ?_
      rintro e w7 ⟨rfl, -, hbe7, -⟩
      have HG7 : Hid (w.grownBy w7 none) := Lib.hid (below_gb (Below.trans2 (gb_below HG.out) (by rw [HBB.out]; exact hbe7)))
      clear hbe7
      go_wp2_with fail
      go_ret
      exact ⟨⟨_, rfl, rfl⟩, HG7.out⟩
set_option maxRecDepth 100000 in
set_option maxHeartbeats 4000000 in
theorem ShowI_c (l : List TokI) (pt pn : Option Addr) (ct M cn : Nat) (w : World) (hl : l.length ≤ 1000000) (hL : (wholeI l).length ≤ 1000000) (h : ToksAt w pt l) :
    Calls Tryz.prog 62 #[.agg #[.slice pt l.length ct, .slice pn M cn]] w (StrGb (wholeI l) w) := by
  have HWH := Lib.hid (fun W (h : ToksAt W pt l) => WholeI_c pt ct l W hl hL h)
  have HT := Lib.hid h
  obtain ⟨m, hm⟩ : ∃ m, l.length = m := ⟨_, rfl⟩
  rw [hm] at HWH ⊢
  clear hm h hl hL
  go_enter Tryz.func62, Tryz.ntmps62
  go_wp2_with fail
  have hgA := World.grownBy_alloc w (.cells #[.slice pt m ct, .slice pn M cn] 59) none
  refine (HWH.out _ (HT.out.kept hgA)).mono ?_
  rintro e w1 ⟨⟨s, rfl, hs⟩, hg⟩
  have HS := Lib.hid hs
  have HG := Lib.hid (gb_trans hgA hg)
  clear hgA hg hs
  go_wp2_with fail
  go_ret
  exact ⟨⟨s, rfl, HS.out⟩, HG.out⟩
theorem wholeI_toI (l : List Tok) : wholeI (l.map toI) = wholeL l := by unfold wholeI wholeL; rw [List.flatMap_map]; rfl

section
variable (b bb : Nat) (T : List Tok) (D n : Nat)

set_option maxRecDepth 100000 in
set_option maxHeartbeats 4000000 in
theorem atom_p (hC : TokC T) (hD : D ≤ 200) (hn : n ≤ D) (hG : SubI b bb T D n (fun s => isQ T [40] s = true) 162 (grpT T (NT T D n))) (hM : SubI b bb T D n (fun s => s.e = 0 ∧ (tokQ T s).kind = 1) 163 (nameT T (NT T D n))) : SubI b bb T D n (fun _ => True) 161 (atomT T (NT T D n)) := by
  intro s N vn A w hP h
  have HCC := Lib.hid hC; have HPP := Lib.hid hP
  have HSG := Lib.hid hG
  have HSM := Lib.hid hM
  have HK := Lib.hid (KX.start h)
  have HFEW := Lib.hid h.few
  have HA := Lib.hid (OutL.nil N s)
  clear h hC hP hD hn hG hM
  go_enter Tryz.func161, Tryz.ntmps161
  go_wp2_with fail
  refine (HK.out.kind 3).mono ?_
  rintro e w1 ⟨rfl, hk⟩
  have HK := Lib.hid hk
  by_cases hc1 : s.e = 0 ∧ (tokQ T s).kind = 3
  · rw [decide_eq_true hc1]
    have HLI := Lib.hid (show (tokQ T s).kind ≠ 5 ∧ s.e = 0 from ⟨by omega, hc1.1⟩); have HV1 := Lib.hid hc1; clear hc1 hk
    go_wp2_with fail
    have HKD := HK
    have HK := Lib.hid HK.out.drew
    go_region_held3 (fun w' => w'.cell? ⟨b, 0, none⟩ = some (.pointer (some ⟨bb, 0, none⟩))) (first | with_reducible exact HK.out.cell | with_reducible exact (HK.out.alloc _).cell | with_reducible exact (HKD.out.alloc _).drew.cell | with_reducible exact ((HK.out.alloc _).alloc _).cell | with_reducible exact ((HKD.out.alloc _).alloc _).drew.cell | with_reducible exact (((HK.out.alloc _).alloc _).alloc _).cell)
      (first
        | (go_at_call 90; (first | with_reducible refine (HK.out.take HCC.out HLI.out.1 HLI.out.2).mono ?_ | with_reducible refine ((HK.out.strs1 _ _).take HCC.out HLI.out.1 HLI.out.2).mono ?_ | with_reducible refine ((HKD.out.strs1 _ _).drew.take HCC.out HLI.out.1 HLI.out.2).mono ?_ | with_reducible refine (((HK.out.strs1 _ _).strs1 _ _).take HCC.out HLI.out.1 HLI.out.2).mono ?_ | with_reducible refine (((HKD.out.strs1 _ _).strs1 _ _).drew.take HCC.out HLI.out.1 HLI.out.2).mono ?_); rintro e w9 ⟨v9, N9, vn9, rfl, hk9, ho9, hd9⟩; have HK := Lib.hid hk9; have HD := Lib.hid (OutD.app HA.out ho9 hd9); have HA := Lib.hid HD.out.out; clear hk9 ho9 hd9)
        | (go_at_call 58; have HDW := Lib.hid (HD.out.weak (j := 0 + 1) (by decide)); refine (KX.node (k := 0) (kind := 15) (HK.out.ints1 _ ) ?_ HCC.out.len HDW.out ?_ HFEW.out ?_).mono ?_; exact List.mem_cons_self ..; rfl; simp; rintro e w9 ⟨v9, N9, vn9, rfl, hk9, ho9⟩; have HK := Lib.hid hk9; have HZ := Lib.hid ho9; clear hk9 ho9))
    all_goals
      have HQ := Lib.hid (KX.fin HZ.out HK.out (fun he => absurd HLI.out.2 he) (r' := (atomT T (NT T D n)) s) (by rw [atom_num HV1.out]; exact Eqv.refl _))
      go_wp2_with fail
      go_ret
      exact HQ.out
  · rw [decide_eq_false hc1]
    have HV1 := Lib.hid hc1; clear hc1 hk
    go_wp2_with fail
    refine (KX.at (ws := [[116, 114, 117, 101], [102, 97, 108, 115, 101]]) (HK.out.strs2 _ _ _) (List.mem_cons_self ..) (by decide)).mono ?_
    rintro e w2 ⟨rfl, hk⟩
    have HK := Lib.hid hk.nils
    obtain ⟨b2, hb⟩ : ∃ b2, atQ T [[116, 114, 117, 101], [102, 97, 108, 115, 101]] s = b2 := ⟨_, rfl⟩
    rw [hb]
    have HV2 : Hid ((isQ T [116, 114, 117, 101] s || isQ T [102, 97, 108, 115, 101] s) = b2) := Lib.hid (by rw [← hb, at_any HCC.out (by decide)]; simp)
    clear hk hb
    cases b2
    · skip
      have d0 := HK.out.cell; have d7 := HK.out.innc
      go_wp2_with fail
      refine (KX.at (ws := [[114, 101, 115]]) (HK.out.strs1 _ _) (List.mem_cons_self ..) (by decide)).mono ?_
      rintro e w3 ⟨rfl, hk⟩
      have HK := Lib.hid hk.nils
      obtain ⟨b3, hb⟩ : ∃ b3, isQ T [114, 101, 115] s = b3 := ⟨_, rfl⟩
      rw [at_one HCC.out (by decide), hb]
      have HV3 := Lib.hid hb
      clear hk hb d0 d7
      have d7 := HK.out.innc
      obtain ⟨I, hI⟩ : ∃ I, s.inn = I := ⟨_, rfl⟩
      have HI := Lib.hid hI
      rw [hI] at d7
      clear hI
      cases b3
      · skip
        go_wp2_with fail
        refine (KX.at (ws := [[40]]) (HK.out.strs1 _ _) (List.mem_cons_self ..) (by decide)).mono ?_
        rintro e w4 ⟨rfl, hk⟩
        have HK := Lib.hid (hk.nils)
        obtain ⟨b4, hb⟩ : ∃ b4, isQ T [40] s = b4 := ⟨_, rfl⟩
        rw [at_one HCC.out (by decide), hb]
        have HV4 := Lib.hid hb
        clear hk hb
        cases b4
        · skip
          go_wp2_with fail
          refine (HK.out.kind 1).mono ?_
          rintro e w5 ⟨rfl, hk⟩
          have HK := Lib.hid hk
          by_cases hc5 : s.e = 0 ∧ (tokQ T s).kind = 1
          · rw [decide_eq_true hc5]
            have HV5 := Lib.hid hc5; clear hc5 hk
            go_wp2_with fail
            refine (HK.out.sub HSM.out HV5.out).mono ?_
            rintro e w9 ⟨v9, N9, vn9, rfl, hk9, ho9, hd9⟩
            have HQ := Lib.hid (KX.fin ho9 hk9 hd9 (r' := (atomT T (NT T D n)) s) (by rw [atom_name HV5.out.1 HV1.out HV2.out (fun h => by rw [HV3.out] at h; cases h.2) HV4.out HV5.out.2]; exact Eqv.refl _))
            clear hk9 ho9 hd9
            go_wp2_with fail
            go_ret
            exact HQ.out
          · rw [decide_eq_false hc5]
            have HV5 := Lib.hid hc5; clear hc5 hk
            go_wp2_with fail
            refine (HK.out.fail 22 (by decide)).mono ?_
            rintro e w9 ⟨v9, N9, vn9, rfl, hk9, ho9, hd9⟩
            have HQ := Lib.hid (KX.fin ho9 hk9 hd9 (r' := (atomT T (NT T D n)) s) (atom_none HV1.out HV2.out (fun h => by rw [HV3.out] at h; cases h.2) HV4.out HV5.out))
            clear hk9 ho9 hd9
            go_wp2_with fail
            go_ret
            exact HQ.out
        · skip
          go_wp2_with fail
          refine (HK.out.sub HSG.out HV4.out).mono ?_
          rintro e w9 ⟨v9, N9, vn9, rfl, hk9, ho9, hd9⟩
          have HQ := Lib.hid (KX.fin ho9 hk9 hd9 (r' := (atomT T (NT T D n)) s) (by rw [atom_grp HV1.out HV2.out (fun h => by rw [HV3.out] at h; cases h.2) HV4.out]; exact Eqv.refl _))
          clear hk9 ho9 hd9
          go_wp2_with fail
          go_ret
          exact HQ.out
      · cases I
        · skip
          go_wp2_with fail
          refine (KX.at (ws := [[40]]) (HK.out.strs1 _ _) (List.mem_cons_self ..) (by decide)).mono ?_
          rintro e w4 ⟨rfl, hk⟩
          have HK := Lib.hid (hk.nils)
          obtain ⟨b4, hb⟩ : ∃ b4, isQ T [40] s = b4 := ⟨_, rfl⟩
          rw [at_one HCC.out (by decide), hb]
          have HV4 := Lib.hid hb
          clear hk hb
          cases b4
          · skip
            go_wp2_with fail
            refine (HK.out.kind 1).mono ?_
            rintro e w5 ⟨rfl, hk⟩
            have HK := Lib.hid hk
            by_cases hc5 : s.e = 0 ∧ (tokQ T s).kind = 1
            · rw [decide_eq_true hc5]
              have HV5 := Lib.hid hc5; clear hc5 hk
              go_wp2_with fail
              refine (HK.out.sub HSM.out HV5.out).mono ?_
              rintro e w9 ⟨v9, N9, vn9, rfl, hk9, ho9, hd9⟩
              have HQ := Lib.hid (KX.fin ho9 hk9 hd9 (r' := (atomT T (NT T D n)) s) (by rw [atom_name HV5.out.1 HV1.out HV2.out (fun h => by rw [HI.out] at h; cases h.1) HV4.out HV5.out.2]; exact Eqv.refl _))
              clear hk9 ho9 hd9
              go_wp2_with fail
              go_ret
              exact HQ.out
            · rw [decide_eq_false hc5]
              have HV5 := Lib.hid hc5; clear hc5 hk
              go_wp2_with fail
              refine (HK.out.fail 22 (by decide)).mono ?_
              rintro e w9 ⟨v9, N9, vn9, rfl, hk9, ho9, hd9⟩
              have HQ := Lib.hid (KX.fin ho9 hk9 hd9 (r' := (atomT T (NT T D n)) s) (atom_none HV1.out HV2.out (fun h => by rw [HI.out] at h; cases h.1) HV4.out HV5.out))
              clear hk9 ho9 hd9
              go_wp2_with fail
              go_ret
              exact HQ.out
          · skip
            go_wp2_with fail
            refine (HK.out.sub HSG.out HV4.out).mono ?_
            rintro e w9 ⟨v9, N9, vn9, rfl, hk9, ho9, hd9⟩
            have HQ := Lib.hid (KX.fin ho9 hk9 hd9 (r' := (atomT T (NT T D n)) s) (by rw [atom_grp HV1.out HV2.out (fun h => by rw [HI.out] at h; cases h.1) HV4.out]; exact Eqv.refl _))
            clear hk9 ho9 hd9
            go_wp2_with fail
            go_ret
            exact HQ.out
        · skip
          have HLI := Lib.hid (is_kind HV3.out)
          go_wp2_with fail
          have HKD := HK
          have HK := Lib.hid HK.out.drew
          go_region_held3 (fun w' => w'.cell? ⟨b, 0, none⟩ = some (.pointer (some ⟨bb, 0, none⟩))) (first | with_reducible exact HK.out.cell | with_reducible exact (HK.out.alloc _).cell | with_reducible exact (HKD.out.alloc _).drew.cell | with_reducible exact ((HK.out.alloc _).alloc _).cell | with_reducible exact ((HKD.out.alloc _).alloc _).drew.cell | with_reducible exact (((HK.out.alloc _).alloc _).alloc _).cell)
            (first
              | (go_at_call 90; (first | with_reducible refine (HK.out.take HCC.out HLI.out.1 HLI.out.2).mono ?_ | with_reducible refine ((HK.out.strs1 _ _).take HCC.out HLI.out.1 HLI.out.2).mono ?_ | with_reducible refine ((HKD.out.strs1 _ _).drew.take HCC.out HLI.out.1 HLI.out.2).mono ?_ | with_reducible refine (((HK.out.strs1 _ _).strs1 _ _).take HCC.out HLI.out.1 HLI.out.2).mono ?_ | with_reducible refine (((HKD.out.strs1 _ _).strs1 _ _).drew.take HCC.out HLI.out.1 HLI.out.2).mono ?_); rintro e w9 ⟨v9, N9, vn9, rfl, hk9, ho9, hd9⟩; have HK := Lib.hid hk9; have HD := Lib.hid (OutD.app HA.out ho9 hd9); have HA := Lib.hid HD.out.out; clear hk9 ho9 hd9)
              | (go_at_call 58; have HDW := Lib.hid (HD.out.weak (j := 0 + 1) (by decide)); refine (KX.node (k := 0) (kind := 17) (HK.out.ints1 _ ) ?_ HCC.out.len HDW.out ?_ HFEW.out ?_).mono ?_; exact List.mem_cons_self ..; rfl; simp; rintro e w9 ⟨v9, N9, vn9, rfl, hk9, ho9⟩; have HK := Lib.hid hk9; have HZ := Lib.hid ho9; clear hk9 ho9))
          all_goals
            have HQ := Lib.hid (KX.fin HZ.out HK.out (fun he => absurd HLI.out.2 he) (r' := (atomT T (NT T D n)) s) (by rw [atom_res HLI.out.2 HV1.out HV2.out ⟨HI.out, HV3.out⟩]; exact Eqv.refl _))
            go_wp2_with fail
            go_ret
            exact HQ.out
    · skip
      have HLI := Lib.hid (show (tokQ T s).kind ≠ 5 ∧ s.e = 0 from (by have h9 := HV2.out; rcases Bool.or_eq_true_iff.1 h9 with h | h <;> exact is_kind h))
      go_wp2_with fail
      have HKD := HK
      have HK := Lib.hid HK.out.drew
      go_region_held3 (fun w' => w'.cell? ⟨b, 0, none⟩ = some (.pointer (some ⟨bb, 0, none⟩))) (first | with_reducible exact HK.out.cell | with_reducible exact (HK.out.alloc _).cell | with_reducible exact (HKD.out.alloc _).drew.cell | with_reducible exact ((HK.out.alloc _).alloc _).cell | with_reducible exact ((HKD.out.alloc _).alloc _).drew.cell | with_reducible exact (((HK.out.alloc _).alloc _).alloc _).cell)
        (first
          | (go_at_call 90; (first | with_reducible refine (HK.out.take HCC.out HLI.out.1 HLI.out.2).mono ?_ | with_reducible refine ((HK.out.strs1 _ _).take HCC.out HLI.out.1 HLI.out.2).mono ?_ | with_reducible refine ((HKD.out.strs1 _ _).drew.take HCC.out HLI.out.1 HLI.out.2).mono ?_ | with_reducible refine (((HK.out.strs1 _ _).strs1 _ _).take HCC.out HLI.out.1 HLI.out.2).mono ?_ | with_reducible refine (((HKD.out.strs1 _ _).strs1 _ _).drew.take HCC.out HLI.out.1 HLI.out.2).mono ?_); rintro e w9 ⟨v9, N9, vn9, rfl, hk9, ho9, hd9⟩; have HK := Lib.hid hk9; have HD := Lib.hid (OutD.app HA.out ho9 hd9); have HA := Lib.hid HD.out.out; clear hk9 ho9 hd9)
          | (go_at_call 58; have HDW := Lib.hid (HD.out.weak (j := 0 + 1) (by decide)); refine (KX.node (k := 0) (kind := 16) (HK.out.ints1 _ ) ?_ HCC.out.len HDW.out ?_ HFEW.out ?_).mono ?_; exact List.mem_cons_self ..; rfl; simp; rintro e w9 ⟨v9, N9, vn9, rfl, hk9, ho9⟩; have HK := Lib.hid hk9; have HZ := Lib.hid ho9; clear hk9 ho9))
      all_goals
        have HQ := Lib.hid (KX.fin HZ.out HK.out (fun he => absurd HLI.out.2 he) (r' := (atomT T (NT T D n)) s) (by rw [atom_truth HV1.out HV2.out HLI.out.2]; exact Eqv.refl _))
        go_wp2_with fail
        go_ret
        exact HQ.out
end
end Go.Proofs.YtccokidhngdjnaaGreatDoor
namespace Go.Proofs.YtccokidhngdjnaaGreatDoor
open Go.RowKit

section
variable (b bb : Nat) (T : List Tok) (D n : Nat)

set_option maxRecDepth 100000 in
set_option maxHeartbeats 4000000 in
theorem group_p (hC : TokC T) (hD : D ≤ 200) (hn : n ≤ D) (hB : n < D → SubI b bb T D (n + 1) (fun _ => True) 60 (formulaT T D (n + 1) (NT T D (n + 1)))) (hE : n < D → SubI b bb T D (n + 1) (fun s => s.inn = false) 164 (bodyE T D (n + 1) (NT T D (n + 1)))) : SubI b bb T D n (fun s => isQ T [40] s = true) 162 (grpT T (NT T D n)) := by
  intro s N vn A w hP h
  have HCC := Lib.hid hC; have HPP := Lib.hid hP
  have HNB := Lib.hid (nested_formula b bb T D n hD hn (fun _ => True) _ hB)
  have HNE := Lib.hid (nested_expression b bb T D n hD hn (fun s => s.inn = false) _ hE)
  have HXB := Lib.hid (fun (s : St) (N : List Nd) (vn : Value) (A : Nat → Prop) (w : World) (hi : s.inn = true) h => (HNB.out s N vn A w trivial h).mono (fun e w' hp => hp.eqv (form_nest T hn s hi)))
  have HXE := Lib.hid (fun (s : St) (N : List Nd) (vn : Value) (A : Nat → Prop) (w : World) (hi : s.inn = false) h => (HNE.out s N vn A w hi h).mono (fun e w' hp => hp.eqv (expr_nest T hn s hi)))
  have HLI := Lib.hid (is_kind hP)
  have HKS1 : Hid ([41] ∈ KS) := Lib.hid (by decide)
  have HK := Lib.hid (KX.start h)
  have HFEW := Lib.hid h.few
  have HA := Lib.hid (OutL.nil N s)
  have d0 := HK.out.cell
  have d7 := HK.out.innc
  obtain ⟨I, hI⟩ : ∃ I, s.inn = I := ⟨_, rfl⟩
  have HI := Lib.hid hI
  rw [hI] at d7
  clear hI
  clear h hC hP hD hn hB hE
  go_enter Tryz.func162, Tryz.ntmps162
  cases I
  · skip
    go_wp2_with fail
    have HKD := HK
    have HK := Lib.hid HK.out.drew
    go_region_held3 (fun w' => w'.cell? ⟨b, 0, none⟩ = some (.pointer (some ⟨bb, 0, none⟩))) (first | with_reducible exact HK.out.cell | with_reducible exact (HK.out.alloc _).cell | with_reducible exact (HKD.out.alloc _).drew.cell | with_reducible exact ((HK.out.alloc _).alloc _).cell | with_reducible exact ((HKD.out.alloc _).alloc _).drew.cell | with_reducible exact (((HK.out.alloc _).alloc _).alloc _).cell)
      (first
        | (go_at_call 90; (first | with_reducible refine (HK.out.take HCC.out HLI.out.1 HLI.out.2).mono ?_ | with_reducible refine ((HK.out.strs1 _ _).take HCC.out HLI.out.1 HLI.out.2).mono ?_ | with_reducible refine ((HKD.out.strs1 _ _).drew.take HCC.out HLI.out.1 HLI.out.2).mono ?_ | with_reducible refine (((HK.out.strs1 _ _).strs1 _ _).take HCC.out HLI.out.1 HLI.out.2).mono ?_ | with_reducible refine (((HKD.out.strs1 _ _).strs1 _ _).drew.take HCC.out HLI.out.1 HLI.out.2).mono ?_); rintro e w9 ⟨v9, N9, vn9, rfl, hk9, ho9, hd9⟩; have HK := Lib.hid hk9; have HD := Lib.hid (OutD.app HA.out ho9 hd9); have HA := Lib.hid HD.out.out; clear hk9 ho9 hd9)
        | (go_at_call 59; (first | with_reducible refine (HK.out.call (fun A h => HXE.out _ _ _ A _ ((leaf_keep T HLI.out.2).inn.trans HI.out) h)).mono ?_ | with_reducible refine ((HK.out.strs1 _ _).call (fun A h => HXE.out _ _ _ A _ ((leaf_keep T HLI.out.2).inn.trans HI.out) h)).mono ?_ | with_reducible refine ((HKD.out.strs1 _ _).drew.call (fun A h => HXE.out _ _ _ A _ ((leaf_keep T HLI.out.2).inn.trans HI.out) h)).mono ?_ | with_reducible refine (((HK.out.strs1 _ _).strs1 _ _).call (fun A h => HXE.out _ _ _ A _ ((leaf_keep T HLI.out.2).inn.trans HI.out) h)).mono ?_ | with_reducible refine (((HKD.out.strs1 _ _).strs1 _ _).drew.call (fun A h => HXE.out _ _ _ A _ ((leaf_keep T HLI.out.2).inn.trans HI.out) h)).mono ?_); rintro e w9 ⟨v9, N9, vn9, rfl, hk9, ho9, hd9⟩; have HK := Lib.hid hk9; have HD := Lib.hid (OutD.app HA.out ho9 hd9); have HA := Lib.hid HD.out.out; clear hk9 ho9 hd9)
        | (go_at_call 165; (first | with_reducible refine (KX.one1 [41] HK.out HCC.out HKS1.out ?_).mono ?_ | with_reducible refine (KX.one1 [41] (HK.out.strs1 _ _) HCC.out HKS1.out ?_).mono ?_ | with_reducible refine (KX.one1 [41] (HKD.out.strs1 _ _).drew HCC.out HKS1.out ?_).mono ?_ | with_reducible refine (KX.one1 [41] ((HK.out.strs1 _ _).strs1 _ _) HCC.out HKS1.out ?_).mono ?_ | with_reducible refine (KX.one1 [41] ((HKD.out.strs1 _ _).strs1 _ _).drew HCC.out HKS1.out ?_).mono ?_); (first | exact ⟨_, (by first | rfl | simp), List.mem_cons_self ..⟩ | exact ⟨_, (by first | rfl | simp), List.mem_cons_of_mem _ (List.mem_cons_self ..)⟩ | exact ⟨_, (by first | rfl | simp), List.mem_cons_of_mem _ (List.mem_cons_of_mem _ (List.mem_cons_self ..))⟩); rintro e w9 ⟨v9, N9, vn9, rfl, hk9, ho9, hd9⟩; have HK := Lib.hid hk9; have HD := Lib.hid (OutD.app HA.out ho9 hd9); have HA := Lib.hid HD.out.out; clear hk9 ho9 hd9)
        | (go_at_call 58; have HDW := Lib.hid (HD.out.weak (j := 0 + 1) (by decide)); refine (KX.node (k := 0) (kind := 12) (HK.out.ints3 _ _ _ ) ?_ HCC.out.len HDW.out ?_ HFEW.out ?_).mono ?_; exact List.mem_cons_self ..; rfl; simp; rintro e w9 ⟨v9, N9, vn9, rfl, hk9, ho9⟩; have HK := Lib.hid hk9; have HZ := Lib.hid ho9; clear hk9 ho9))
    all_goals
      have HQ := Lib.hid (KX.fin HZ.out HK.out (fun he => absurd HLI.out.2 he) (r' := (grpT T (NT T D n)) s) (Eqv.refl _))
      go_wp2_with fail
      go_ret
      exact HQ.out
  · skip
    go_wp2_with fail
    have HKD := HK
    have HK := Lib.hid HK.out.drew
    go_region_held3 (fun w' => w'.cell? ⟨b, 0, none⟩ = some (.pointer (some ⟨bb, 0, none⟩))) (first | with_reducible exact HK.out.cell | with_reducible exact (HK.out.alloc _).cell | with_reducible exact (HKD.out.alloc _).drew.cell | with_reducible exact ((HK.out.alloc _).alloc _).cell | with_reducible exact ((HKD.out.alloc _).alloc _).drew.cell | with_reducible exact (((HK.out.alloc _).alloc _).alloc _).cell)
      (first
        | (go_at_call 90; (first | with_reducible refine (HK.out.take HCC.out HLI.out.1 HLI.out.2).mono ?_ | with_reducible refine ((HK.out.strs1 _ _).take HCC.out HLI.out.1 HLI.out.2).mono ?_ | with_reducible refine ((HKD.out.strs1 _ _).drew.take HCC.out HLI.out.1 HLI.out.2).mono ?_ | with_reducible refine (((HK.out.strs1 _ _).strs1 _ _).take HCC.out HLI.out.1 HLI.out.2).mono ?_ | with_reducible refine (((HKD.out.strs1 _ _).strs1 _ _).drew.take HCC.out HLI.out.1 HLI.out.2).mono ?_); rintro e w9 ⟨v9, N9, vn9, rfl, hk9, ho9, hd9⟩; have HK := Lib.hid hk9; have HD := Lib.hid (OutD.app HA.out ho9 hd9); have HA := Lib.hid HD.out.out; clear hk9 ho9 hd9)
        | (go_at_call 59; (first | with_reducible refine (HK.out.call (fun A h => HXB.out _ _ _ A _ ((leaf_keep T HLI.out.2).inn.trans HI.out) h)).mono ?_ | with_reducible refine ((HK.out.strs1 _ _).call (fun A h => HXB.out _ _ _ A _ ((leaf_keep T HLI.out.2).inn.trans HI.out) h)).mono ?_ | with_reducible refine ((HKD.out.strs1 _ _).drew.call (fun A h => HXB.out _ _ _ A _ ((leaf_keep T HLI.out.2).inn.trans HI.out) h)).mono ?_ | with_reducible refine (((HK.out.strs1 _ _).strs1 _ _).call (fun A h => HXB.out _ _ _ A _ ((leaf_keep T HLI.out.2).inn.trans HI.out) h)).mono ?_ | with_reducible refine (((HKD.out.strs1 _ _).strs1 _ _).drew.call (fun A h => HXB.out _ _ _ A _ ((leaf_keep T HLI.out.2).inn.trans HI.out) h)).mono ?_); rintro e w9 ⟨v9, N9, vn9, rfl, hk9, ho9, hd9⟩; have HK := Lib.hid hk9; have HD := Lib.hid (OutD.app HA.out ho9 hd9); have HA := Lib.hid HD.out.out; clear hk9 ho9 hd9)
        | (go_at_call 165; (first | with_reducible refine (KX.one1 [41] HK.out HCC.out HKS1.out ?_).mono ?_ | with_reducible refine (KX.one1 [41] (HK.out.strs1 _ _) HCC.out HKS1.out ?_).mono ?_ | with_reducible refine (KX.one1 [41] (HKD.out.strs1 _ _).drew HCC.out HKS1.out ?_).mono ?_ | with_reducible refine (KX.one1 [41] ((HK.out.strs1 _ _).strs1 _ _) HCC.out HKS1.out ?_).mono ?_ | with_reducible refine (KX.one1 [41] ((HKD.out.strs1 _ _).strs1 _ _).drew HCC.out HKS1.out ?_).mono ?_); (first | exact ⟨_, (by first | rfl | simp), List.mem_cons_self ..⟩ | exact ⟨_, (by first | rfl | simp), List.mem_cons_of_mem _ (List.mem_cons_self ..)⟩ | exact ⟨_, (by first | rfl | simp), List.mem_cons_of_mem _ (List.mem_cons_of_mem _ (List.mem_cons_self ..))⟩); rintro e w9 ⟨v9, N9, vn9, rfl, hk9, ho9, hd9⟩; have HK := Lib.hid hk9; have HD := Lib.hid (OutD.app HA.out ho9 hd9); have HA := Lib.hid HD.out.out; clear hk9 ho9 hd9)
        | (go_at_call 58; have HDW := Lib.hid (HD.out.weak (j := 0 + 1) (by decide)); refine (KX.node (k := 0) (kind := 12) (HK.out.ints3 _ _ _ ) ?_ HCC.out.len HDW.out ?_ HFEW.out ?_).mono ?_; exact List.mem_cons_self ..; rfl; simp; rintro e w9 ⟨v9, N9, vn9, rfl, hk9, ho9⟩; have HK := Lib.hid hk9; have HZ := Lib.hid ho9; clear hk9 ho9))
    all_goals
      have HQ := Lib.hid (KX.fin HZ.out HK.out (fun he => absurd HLI.out.2 he) (r' := (grpT T (NT T D n)) s) (Eqv.refl _))
      go_wp2_with fail
      go_ret
      exact HQ.out
end
end Go.Proofs.YtccokidhngdjnaaGreatDoor
namespace Go.Proofs.YtccokidhngdjnaaGreatDoor
open Go.RowKit

def DoneFar (l : List Tok) (N : List Nd) (w : World) (e : Ending) (w' : World) : Prop :=
  w.grownBy w' none ∧ ∃ pt ct pn cn K, e = .returned (.agg #[.slice pt l.length ct, .slice pn N.length cn]) ∧ TAt w' pt l ∧ l.length ≤ ct ∧ NodesAt w' pn N K ∧ (l ≠ [] → ∀ a, pt = some a → w.heap.size ≤ a.block) ∧ (N ≠ [] → ∀ a, pn = some a → w.heap.size ≤ a.block) ∧ FarK N K (fun k => w.heap.size ≤ k)

set_option maxRecDepth 100000 in
set_option maxHeartbeats 8000000 in
theorem Done_far (b : Nat) (l : List Tok) (u : Nat) (N : List Nd) (vn : Value) (w : World) (hl : l.length ≤ 100000) (hs : Short l) (hN : N.length ≤ 100000) (hkl : ∀ x ∈ N, x.kids.length ≤ 100000) (h : BldV w b l u N vn) :
    Calls Tryz.prog 57 #[.pointer (some ⟨b, 0, none⟩)] w (DoneFar l N w) := by
  obtain ⟨pt, ct, K, h⟩ := h
  have hbox := h.box
  have HT := Lib.hid (fun W h => ownTokens_c l pt ct W hl hs h)
  have HTA := Lib.hid h.toks
  obtain ⟨pv, cv, e1, hna, -, -, -⟩ := h.own.is
  rw [nds_len] at e1
  have HNA : Hid (NodesAt w pv N K) := Lib.hid ⟨hna, h.kids⟩
  have HLN : Hid (∀ v w' base, OwnG 4 123 w' base v (rowT l) → ∃ p c, v = .slice p l.length c ∧ TAt w' p l ∧ l.length ≤ c ∧ (l ≠ [] → ∀ a, p = some a → base ≤ a.block)) := Lib.hid (fun v w' base ho => by
    obtain ⟨p', c', e, ht, h1, -, h2⟩ := ho.is
    rw [rowT_len] at e h1
    exact ⟨p', c', e, t_of_g ht, h1, fun h0 => h2 (fun h3 => h0 (List.map_eq_nil_iff.1 h3))⟩)
  have HKL := Lib.hid hkl
  obtain ⟨m, hm⟩ : ∃ m, l.length = m := ⟨_, rfl⟩
  obtain ⟨M, hM⟩ : ∃ M, N.length = M := ⟨_, rfl⟩
  have HM := Lib.hid hM; have HLM := Lib.hid hm
  rw [hM] at e1 hN
  rw [hm, e1] at hbox
  rw [hm] at HT
  have HBX := Lib.hid hbox
  obtain ⟨d0, d1, d2, d3⟩ := cells3' hbox
  have hbw := hlt' hbox
  clear hbox hm hM h hna hkl e1 hs
  go_enter Tryz.func57, Tryz.ntmps57
  go_wp2_with fail
  have hR := heap_alloc_new w (.cells #[.slice none 0 0, .slice none 0 0] 59)
  have hgR := World.grownBy_alloc w (.cells #[.slice none 0 0, .slice none 0 0] 59) none
  have hsR : (w.alloc (.cells #[.slice none 0 0, .slice none 0 0] 59)).heap.size = w.heap.size + 1 := by simp
  generalize (w.alloc (.cells #[.slice none 0 0, .slice none 0 0] 59)) = W at *
  obtain ⟨B, hB⟩ : ∃ B, w.heap.size = B := ⟨_, rfl⟩
  have HBW := Lib.hid hB
  rw [hB] at hR hsR hbw ⊢
  have HR := Lib.hid hR; have HGR := Lib.hid hgR; have HSR := Lib.hid hsR
  clear hR hgR hB hsR d0 d1 d2 d3
  go_loopw [3, 11] (fun ov iv wr => ∃ (k : Nat) (K' : Kf), k ≤ M ∧ iv = .int .i64 k ∧ Hid (Nown wr (B + 1) ov (N.take k) K') ∧ Hid (Below (B + 1) W wr)) (fun _ v _ => M - (intOf v).toNat)
  case atStart => exact ⟨0, fun _ => (none, 0), Nat.zero_le _, rfl, Lib.hid ⟨OwnG.nil _ _ _ _, fun i x hx => by simp at hx, fun i x hx => by simp at hx⟩, Lib.hid (Below.refl _ _)⟩
  case round =>
    obtain ⟨k, K', hk, rfl, HO, HB⟩ := hrel
    have HGW : Hid (w.grownBy wr none) := Lib.hid (below_gb (Below.trans2 (Below.gb HGR.out (Nat.le_refl _)) (HB.out.mono (by rw [HBW.out]; omega))))
    have hBr : B + 1 ≤ wr.heap.size := by have := HB.out.size; have := HSR.out; omega
    by_cases hlt : k < M
    · have d1 : decide ((k : Int) < (M : Int)) = true := decide_eq_true (by omega)
      have d1' : decide (k < M) = true := decide_eq_true hlt
      obtain ⟨x, hx⟩ : ∃ x, N[k]? = some x := ⟨N[k]'(by rw [HM.out]; exact hlt), List.getElem?_eq_getElem _⟩
      obtain ⟨g, off, rfl, hgl, c0, c1, c2⟩ := node_at HNA.out hx
      have c0 := HGW.out.cell c0 (by simp)
      have c1 := HGW.out.cell c1 (by simp)
      have c2 := HGW.out.cell c2 (by simp)
      have HKA := Lib.hid (HNA.out.2 k x hx)
      have HTK : Hid (N.take (k + 1) = N.take k ++ [x]) := Lib.hid (by rw [List.take_add_one, hx]; rfl)
      have HTL : Hid ((ndsV K' (N.take k)).length = k) := Lib.hid (by rw [nds_len, List.length_take, HM.out]; omega)
      have HLE : Hid ((ndsV K' (N.take k)).length ≤ 1000000) := Lib.hid (by rw [HTL.out]; omega)
      have HON := Lib.hid (fun W q c h => ownNode_c x.kind x.tok x.kids q c W (HKL.out x (List.mem_of_getElem? hx)) h)
      obtain ⟨xk, hxk⟩ : ∃ xk, x.kind = xk := ⟨_, rfl⟩
      obtain ⟨xt, hxt⟩ : ∃ xt, x.tok = xt := ⟨_, rfl⟩
      obtain ⟨kl, hkl⟩ : ∃ kl, x.kids.length = kl := ⟨_, rfl⟩
      have HXK := Lib.hid hxk; have HXT := Lib.hid hxt; have HXL := Lib.hid hkl
      rw [hxk] at c0 HON
      rw [hxt] at c1 HON
      rw [hkl] at c2 HON
      clear hx hxk hxt hkl
      generalize K k = kk at *
      obtain ⟨kq, kc⟩ := kk
      simp only at c2 HKA
      have hgX := World.grownBy_alloc wr (.cells #[.int .i64 xk, .int .i64 xt, .slice kq kl kc] 134) none
      have HGX := Lib.hid hgX
      have hgw : g < wr.heap.size := Nat.lt_of_lt_of_le hgl HGW.out.size
      clear hgX
      go_wp2_with fail
      refine (HON.out _ kq kc (HKA.out.kept (gb_trans HGW.out HGX.out))).mono ?_
      rintro e w2 ⟨hg2, p2, c2', rfl, hv2, -, hb2⟩
      rw [HXL.out]
      have HV2 := Lib.hid hv2
      have HG2 := Lib.hid (gb_trans HGX.out hg2)
      have HN2 := Lib.hid (HO.out.kept HG2.out)
      have HB2 : Hid (x.kids ≠ [] → ∀ a, p2 = some a → B + 1 ≤ a.block ∧ u3.ownBlock ≠ some a.block) := Lib.hid (fun hn a ha => by
        have h1 := (hb2 hn a ha).1
        simp at h1
        refine ⟨by omega, fun e => ?_⟩
        have h2 := (OwnG.at HO.out.own _ e).2
        omega)
      have HBE := Lib.hid (Below.trans2 HB.out (Below.gb HG2.out hBr))
      have hB2 : B + 1 ≤ w2.heap.size := Nat.le_trans hBr HG2.out.size
      clear hg2 hv2 hb2 HO HB HGX c0 c1 c2
      go_wp2_with (at_builtin; go_loud (refine wpList_appGl (s := 3) (t := 57) (T := 134) (by decide) Tryz.underlying57 infoTN rfl (by omega) rfl _ _ rfl (B + 1) (ndsV K' (N.take k)) [.int .i64 xk, .int .i64 xt, .slice p2 kl c2'] rfl (fun u hu => by simp at hu; rcases hu with rfl | rfl | rfl <;> rfl) u3 rfl (OwnG.kept HN2.out.own (World.grownBy_alloc w2 _ none)) w2.heap.size _ rfl (heap_alloc_new w2 _) rfl HLE.out (by simp; omega) (w2.heap.size + 1) (by simp) ?_))
      intro g9 cap9 w9 hO9 hg9 hl9
      obtain ⟨K9, hN9⟩ := Nown.add (HN2.out.kept (World.grownBy_alloc w2 (.cells #[.int .i64 xk, .int .i64 xt, .slice p2 kl c2'] 134) none)) hg9 (x := x) (p := p2) (c := c2') (by rw [HXK.out, HXT.out, HXL.out]; exact hO9) (HV2.out.kept (World.grownBy_alloc w2 _ none)) HB2.out (hl9.imp id (fun h => by simp; omega))
      rw [← HTK.out] at hN9
      have HN9 := Lib.hid hN9
      have HB9 := Lib.hid ((Below.trans2 HBE.out (Below.gb (World.grownBy_alloc w2 _ none) hB2)).grown hg9 (by simp; omega) (fun k e => (OwnG.at HN2.out.own k e).1))
      rw [HTL.out] at HN9 ⊢
      clear hO9 hg9 hl9 hN9 HN2 HBE
      go_wp2_with fail
      go_roundw
      case rel => exact ⟨k + 1, K9, by omega, by go_num, HN9, HB9⟩
      case measure => (simp [intOf] <;> omega)
    · obtain rfl : k = M := by omega
      rw [List.take_of_length_le (l := N) (i := k) (by rw [HM.out]; exact Nat.le_refl _)] at HO
      obtain ⟨pn, cn, en, hnn, -, -, -⟩ := HO.out.own.is
      rw [nds_len, HM.out] at en
      subst en
      have HNN : Hid (NodesAt wr pn N K') := Lib.hid ⟨hnn, HO.out.kids⟩
      have HPB : Hid (∀ a, pn = some a → k ≠ 0 → B + 1 ≤ a.block) := Lib.hid (fun a ha h0 => by
        obtain ⟨a', h1, h2, -⟩ := OwnG.lt HO.out.own rfl (p := pn) (n := k) (c := cn) (by omega)
        rw [ha] at h1; cases h1; exact h2)
      obtain ⟨d0, d1, d2, d3⟩ := cells3' (bx HGW.out HBX.out)
      have HR1 := Lib.hid ((HB.out.block B (by omega)).trans HR.out)
      clear hnn
      go_wp2_with fail
      refine (HT.out wr (HTA.out.kept HGW.out)).mono ?_
      rintro e w2 ⟨v, rfl, ho, hg⟩
      obtain ⟨p2, c2, rfl, ht2, hc2, hpb2⟩ := HLN.out _ _ _ ho
      have HT2 := Lib.hid ht2; have HC2 := Lib.hid hc2; have HPB2 := Lib.hid hpb2
      have HG2 := Lib.hid hg
      rw [HLM.out]
      have HR2 := Lib.hid (bx hg HR1.out)
      obtain ⟨f0, f1, f2⟩ := cells2 HR2.out
      have HR3 := Lib.hid (set_cells (i := 1) (u := .slice pn k cn) (set_cells (i := 0) (u := .slice p2 m c2) HR2.out))
      have HF3 := Lib.hid ((Fr2.setCell (S := fun k => k = B) (Fr2.refl _ w2) (g := B) (j := 0) rfl (.slice p2 m c2)).setCell (g := B) (j := 1) rfl (.slice pn k cn))
      clear ho ht2 hc2 hpb2 hg d0 d1 d2 d3
      go_wp2_with fail
      obtain ⟨k0, k1, -⟩ := cells2 HR3.out
      refine bodyPost_ret (v := .agg #[.slice p2 m c2, .slice pn k cn]) (by simp [results, Tryz.results57, go_sem, k0, k1]) rfl ⟨Fr2.after (gb_trans HGW.out HG2.out) HF3.out (fun j hj => by rw [HBW.out]; omega), p2, c2, pn, cn, K', by rw [HLM.out, HM.out], HT2.out.keptF HF3.out (fun h0 a ha e => by have := HPB2.out h0 a ha; omega), HC2.out, ⟨?_, fun i x hx => ?_⟩, fun h0 a ha => by have h1 := HPB2.out h0 a ha; have h2 := HBW.out; have h3 := HGW.out.size; omega, fun h0 a ha => by have h1 := HPB.out a ha (fun e0 => h0 (List.length_eq_zero_iff.1 (by rw [HM.out]; exact e0))); have h2 := HBW.out; omega, fun i x hx hn a ha => by have h1 := (HO.out.khi i x hx hn a ha).1; have h2 := HBW.out; omega⟩
      · refine GAt.keptS (HNN.out.1.kept HG2.out) HF3.out fun h0 a ha e => ?_
        have h1 := HPB.out a ha (fun e0 => h0 (List.length_eq_zero_iff.1 (by rw [nds_len, HM.out]; exact e0)))
        omega
      · refine ((HNN.out.2 i x hx).kept HG2.out).keptF HF3.out fun h0 a ha e => ?_
        have h1 := (HO.out.khi i x hx (intsV_ne h0) a ha).1
        omega

theorem cells_flat {s : Nat} {w : World} {g off : Nat} {rows : List (List Value)} (hc : ∀ (j : Nat) (q : List Value), rows[j]? = some q → ∀ (i : Nat) (v : Value), q[i]? = some v → w.cell? ⟨g, off + j * s + i, none⟩ = some v) (hw : ∀ q ∈ rows, q.length = s) (hs : 0 < s) :
    ∀ i v, rows.flatten[i]? = some v → w.cell? ⟨g, off + i, none⟩ = some v := by
  induction rows generalizing off with
  | nil => intro i v h; simp at h
  | cons q l ih =>
    intro i v h
    have hq := hw q List.mem_cons_self
    rw [List.flatten_cons] at h
    by_cases hi : i < s
    · rw [List.getElem?_append_left (by omega)] at h
      have := hc 0 q rfl i v h
      rwa [Nat.zero_mul, Nat.add_zero] at this
    · rw [List.getElem?_append_right (by omega)] at h
      have := ih (off := off + s) (fun j q2 hj i2 v2 hi2 => by
        have := hc (j + 1) q2 (by simpa using hj) i2 v2 hi2
        rwa [show off + (j + 1) * s + i2 = off + s + j * s + i2 by rw [Nat.add_mul]; omega] at this) (fun q2 h2 => hw q2 (List.mem_cons_of_mem _ h2)) (i - q.length) v h
      rwa [show off + s + (i - q.length) = off + i by omega] at this
theorem txs_map (ks : List Sx) : (txSs ks).map (·.2) = ks.map txS := by
  induction ks with
  | nil => rfl
  | cons x l ih => simp only [txSs, List.map_cons, ih]
theorem rtext_c : ∀ (n : Nat) (x : Sx), sizS x ≤ n → ∀ (F : Nat → Prop) (q : List Value) (w : World), RSt F w x q → fitS x → tbS x ≤ 1000000000 → n ≤ 1000000 →
    Calls Tryz.prog 9 #[.agg q.toArray] w (StrX (txS x) w) := by
  intro n
  induction n with
  | zero => intro x hn; have := sizS_pos x; omega
  | succ n ih =>
    intro x hn F q w hx hf hb hnb
    cases x with
    | mk op nm md nu ys ks ps =>
      simp only [RSt] at hx
      obtain ⟨pk, ck, rows, rfl, hg, hls, -⟩ := hx
      simp only [fitS] at hf
      obtain ⟨⟨h1, h2, hcn, hn1, hn2, -⟩, hfs⟩ := hf
      simp only [sizS] at hn
      simp only [tbS] at hb
      have HKT : ∀ (j : Nat) (kx : Sx) (qx : List Value), ks[j]? = some kx → rows[j]? = some qx → KidT w kx qx := fun j kx qx hk hq => by
        obtain ⟨q2, hq2, hx2⟩ := hls.get hk
        rw [hq] at hq2
        have hq2 : qx = q2 := Option.some.inj hq2
        subst hq2
        have s1 := sizSs_mem hk
        have s2 := tbSs_mem hk
        have s3 := tb_len kx
        exact kt_of hx2 (fitSs_mem hfs (List.mem_of_getElem? hk)) (by omega) (fun W hW => ih kx (by omega) F qx W hW (fitSs_mem hfs (List.mem_of_getElem? hk)) (by omega) (by omega))
      have hrl := hls.len
      have hwd := hls.wid
      show Calls Tryz.prog 9 #[.agg #[.int .i64 op, .string ⟨nm.toArray⟩, .string ⟨md.toArray⟩, .string ⟨(Zd.txtL nu).toArray⟩, .bool ys, .slice pk ks.length ck, .int .i64 ps]] w _
      by_cases e1 : op = 1
      · subst e1
        exact rt1 ⟨nm.toArray⟩ ⟨md.toArray⟩ ⟨(Zd.txtL nu).toArray⟩ ys pk ks.length ck ps w
      by_cases e2 : op = 2
      · subst e2
        cases ys
        · exact rt2f _ _ _ pk ks.length ck ps w
        · exact rt2t _ _ _ pk ks.length ck ps w
      by_cases e3 : op = 3
      · subst e3
        exact rt3 ⟨nm.toArray⟩ _ _ ys pk ks.length ck ps w
      by_cases e4 : op = 4
      · subst e4
        exact rt4 _ _ _ ys pk ks.length ck ps w
      by_cases e24 : op = 24
      · have ht := text_call e24 nm md nu ys ks ps
        rw [ht]
        subst e24
        refine rt24 _ _ _ ys pk ks.length ck ps _ w (fun W hW => ?_)
        rw [txs_map]
        refine rcall_c 24 nm md ⟨(Zd.txtL nu).toArray⟩ ys pk ks.length ck ps rows (ks.map txS) W (hg.kept hW) hrl (by simp) (by have h8 := hcn; unfold countB at h8; rw [if_neg (by omega), if_neg (by omega), if_neg (by omega), if_neg (by omega)] at h8; have := of_decide_eq_true h8; omega) hwd (fun j q2 t hq ht2 W2 hW2 => ?_) ?_
        · rw [List.getElem?_map] at ht2
          obtain ⟨kx, hk, rfl⟩ := Option.map_eq_some_iff.1 ht2
          exact (HKT j kx q2 hk hq).2.2.1 W2 (gb_trans hW hW2)
        · have h5 := join_len (txSs ks)
          have h6 := tb_lens ks
          rw [txs_map] at h5
          omega
      have hlen : ks.length = (if op ≤ 6 then 1 else if op = 21 then 3 else 2) := by
        unfold countB at hcn
        rw [if_neg (by omega)] at hcn
        by_cases h6 : op ≤ 6
        · rw [if_pos h6] at hcn ⊢; exact of_decide_eq_true hcn
        rw [if_neg h6] at hcn ⊢
        by_cases h21 : op = 21
        · rw [if_neg (by omega), if_pos h21] at hcn; rw [if_pos h21]; exact of_decide_eq_true hcn
        · rw [if_pos (by omega)] at hcn; rw [if_neg h21]; exact of_decide_eq_true hcn
      obtain ⟨g, off, rfl, hgw, hc⟩ := hg.resolve_left (fun e => by rw [e] at hrl; simp at hrl; rw [← hrl] at hlen; split at hlen <;> (try split at hlen) <;> omega)
      have hcf := cells_flat hc hwd (by omega)
      by_cases h6 : op ≤ 6
      · rw [if_pos h6] at hlen
        obtain ⟨x0, rfl⟩ := one_of hlen
        obtain ⟨q0, rfl⟩ := one_of (hrl.trans hlen)
        obtain ⟨⟨v0, v1, v2, v3, v4, v5, v6, rfl⟩, hl0, -, hk0⟩ := HKT 0 x0 q0 rfl rfl
        have hw9 := fun l => wrap_len x0.op (txS x0) l
        have h56 : op = 5 ∨ op = 6 := by omega
        rcases h56 with rfl | rfl
        · exact rt5 _ _ _ ys g off ck ps v0 v1 v2 v3 v4 v5 v6 (wrapS x0) w hgw (fun i v hi => hcf i v (by simpa using hi)) (fun l W hl hW => hk0 l W hl hW) (by have := hw9 9; unfold wrapS; omega)
        · exact rt6 _ _ _ ys g off ck ps v0 v1 v2 v3 v4 v5 v6 (wrapS x0) w hgw (fun i v hi => hcf i v (by simpa using hi)) (fun l W hl hW => hk0 l W hl hW) (by have := hw9 4; unfold wrapS; omega)
      rw [if_neg h6] at hlen
      by_cases h21 : op = 21
      · rw [if_pos h21] at hlen
        subst h21
        obtain ⟨x0, x1, x2, rfl⟩ := three_of hlen
        obtain ⟨q0, q1, q2, rfl⟩ := three_of (hrl.trans hlen)
        obtain ⟨⟨v0, v1, v2, v3, v4, v5, v6, rfl⟩, hl0, hk0, -⟩ := HKT 0 x0 q0 rfl rfl
        obtain ⟨⟨u0, u1, u2, u3, u4, u5, u6, rfl⟩, hl1, hk1, -⟩ := HKT 1 x1 q1 rfl rfl
        obtain ⟨⟨a0, a1, a2, a3, a4, a5, a6, rfl⟩, hl2, hk2, -⟩ := HKT 2 x2 q2 rfl rfl
        have ht : txS (.mk 21 nm md nu ys [x0, x1, x2] ps) = [105, 102, 32] ++ txS x0 ++ [32, 116, 104, 101, 110, 32] ++ txS x1 ++ [32, 101, 108, 115, 101, 32] ++ txS x2 := by
          show [105, 102, 32] ++ wrapT _ (txS x0) 0 ++ [32, 116, 104, 101, 110, 32] ++ wrapT _ (txS x1) 0 ++ [32, 101, 108, 115, 101, 32] ++ wrapT _ (txS x2) 0 = _
          rw [wrapT0, wrapT0, wrapT0]
        rw [ht]
        exact rt21 _ _ _ ys g off ck ps _ _ _ _ _ _ _ _ _ _ _ _ _ _ _ _ _ _ _ _ _ (txS x0) (txS x1) (txS x2) w hgw (fun i v hi => hcf i v (by simpa using hi)) hk0 (by omega) hk1 (by omega) hk2 (by omega)
      rw [if_neg h21] at hlen
      obtain ⟨x0, x1, rfl⟩ := two_of hlen
      obtain ⟨q0, q1, rfl⟩ := two_of (hrl.trans hlen)
      obtain ⟨⟨v0, v1, v2, v3, v4, v5, v6, rfl⟩, hl0, hk0, hp0⟩ := HKT 0 x0 q0 rfl rfl
      obtain ⟨⟨u0, u1, u2, u3, u4, u5, u6, rfl⟩, hl1, hk1, hp1⟩ := HKT 1 x1 q1 rfl rfl
      by_cases h22 : op = 22
      · subst h22
        have ht : txS (.mk 22 nm md nu ys [x0, x1] ps) = [108, 101, 116, 32] ++ nm ++ [32, 61, 32] ++ txS x0 ++ [32, 105, 110, 32] ++ txS x1 := by
          show [108, 101, 116, 32] ++ nm ++ [32, 61, 32] ++ wrapT _ (txS x0) 0 ++ [32, 105, 110, 32] ++ wrapT _ (txS x1) 0 = _
          rw [wrapT0, wrapT0]
        rw [ht]
        exact rt22 nm _ _ ys g off ck ps _ _ _ _ _ _ _ _ _ _ _ _ _ _ (txS x0) (txS x1) w hn1 hgw (fun i v hi => hcf i v (by simpa using hi)) hk0 (by omega) hk1 (by omega)
      by_cases h23 : op = 23
      · subst h23
        have ht : txS (.mk 23 nm md nu ys [x0, x1] ps) = [97, 115, 115, 101, 114, 116, 32] ++ txS x0 ++ [32, 105, 110, 32] ++ txS x1 := by
          show [97, 115, 115, 101, 114, 116, 32] ++ wrapT _ (txS x0) 0 ++ [32, 105, 110, 32] ++ wrapT _ (txS x1) 0 = _
          rw [wrapT0, wrapT0]
        rw [ht]
        exact rt23 _ _ _ ys g off ck ps _ _ _ _ _ _ _ _ _ _ _ _ _ _ (txS x0) (txS x1) w hgw (fun i v hi => hcf i v (by simpa using hi)) hk0 (by omega) hk1 (by omega)
      rw [text_two (by omega) (by omega)]
      simp only [tbSs] at hb
      have t0 := tb_len x0
      have t1 := tb_len x1
      have hw9 := fun l => wrap_len x0.op (txS x0) l
      have hw8 := fun l => wrap_len x1.op (txS x1) l
      refine rtE op _ _ _ ys _ 2 ck ps _ w (by omega) (by omega) (fun W hW => ?_)
      exact rtwo_c op (by omega) (by omega) _ _ _ ys g off ck ps _ _ _ _ _ _ _ _ _ _ _ _ _ _ (wrapS x0) (wrapS x1) W (Nat.lt_of_lt_of_le hgw hW.size) (fun i v hi => hW.cell (hcf i v (by simpa using hi)) (by simp)) (fun l W2 hl hW2 => hp0 l W2 hl (gb_trans hW hW2)) (fun l W2 hl hW2 => hp1 l W2 hl (gb_trans hW hW2)) (fun l => by have := hw9 l; unfold wrapS; omega) (fun l => by have := hw8 l; unfold wrapS; omega)
end Go.Proofs.YtccokidhngdjnaaGreatDoor
