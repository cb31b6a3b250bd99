/- Show. -/
import Derived.Test.YthclkbaankjbiaaGreatDoorURight
import Derived.Deep.CutBlock
import Derived.Deep.DeepCutAuto
namespace Go.Proofs.YthclkbaankjbiaaGreatDoor
open Go.RowKit

set_option maxRecDepth 100000 in
set_option maxHeartbeats 4000000 in
theorem Show_c (l : List Tok) (pt pn : Option Addr) (ct M cn : Nat) (w : World) (hl : l.length ≤ 1000000) (hL : (wholeL l).length ≤ 1000000) (h : TAt w pt l) :
    Calls Tryz.prog 13 #[.agg #[.slice pt l.length ct, .slice pn M cn]] w (StrGb (wholeL l) w) := by
  have HWH := Lib.hid (fun W (h : TAt W pt l) => Whole_c pt ct l W hl hL h)
  have HT := Lib.hid h
  obtain ⟨m, hm⟩ : ∃ m, l.length = m := ⟨_, rfl⟩
  rw [hm] at HWH ⊢
  clear hm h hl hL
  go_enter Tryz.func13, Tryz.ntmps13
  go_wp2_with fail
  have hgA := World.grownBy_alloc w (.cells #[.slice pt m ct, .slice pn M cn] 26) none
  refine (HWH.out _ (HT.out.kept hgA)).mono ?_
  rintro e w1 ⟨⟨s, rfl, hs⟩, hg⟩
  have HS := Lib.hid hs
  have HG := Lib.hid (gb_trans hgA hg)
  clear hgA hg hs
  go_wp2_with fail
  go_ret
  exact ⟨⟨s, rfl, HS.out⟩, HG.out⟩
end Go.Proofs.YthclkbaankjbiaaGreatDoor
namespace Go.Proofs.YthclkbaankjbiaaGreatDoor
open Go.RowKit

theorem cells4' {w : World} {r : Nat} {a b c d : Value} {T : TypeId} (h : w.heap[r]? = some (.cells #[a, b, c, d] T (0, 0))) : w.cell? ⟨r, 0, none⟩ = some a ∧ w.cell? ⟨r, 1, none⟩ = some b ∧ w.cell? ⟨r, 2, none⟩ = some c ∧ w.cell? ⟨r, 3, none⟩ = some d ∧ ∀ o, w.frozen? ⟨r, o, none⟩ = false :=
  ⟨by rw [cell_of_row w r 0 _ T (0, 0) h]; rfl, by rw [cell_of_row w r 1 _ T (0, 0) h]; rfl, by rw [cell_of_row w r 2 _ T (0, 0) h]; rfl, by rw [cell_of_row w r 3 _ T (0, 0) h]; rfl, fun o => by simp [World.frozen?, h]⟩

set_option maxRecDepth 100000 in
set_option maxHeartbeats 16000000 in
theorem ownToken_c (k p : Int) (x y : ByteArray) (w : World) (hx : x.size ≤ 1000000) (hy : y.size ≤ 1000000) :
    Calls Tryz.prog 64 #[.agg #[.int .i64 k, .string x, .string y, .int .i64 p]] w (ValPost (.agg #[.int .i64 k, .string x, .string y, .int .i64 p]) w) := by
  have HX := Lib.hid (fun W => Clone_c x W (by omega))
  have HY := Lib.hid (fun W => Clone_c y W (by omega))
  clear hx hy
  go_enter Tryz.func64, Tryz.ntmps64
  go_wp2_with fail
  have hA := heap_alloc_new w (.cells #[.int .i64 k, .string x, .string y, .int .i64 p] 72)
  have hgA := World.grownBy_alloc w (.cells #[.int .i64 k, .string x, .string y, .int .i64 p] 72) none
  have hsA : (w.alloc (.cells #[.int .i64 k, .string x, .string y, .int .i64 p] 72)).heap.size = w.heap.size + 1 := by simp
  generalize (w.alloc (.cells #[.int .i64 k, .string x, .string y, .int .i64 p] 72)) = W1 at *
  have hB := heap_alloc_new W1 (.cells #[.int .i64 0, .string ⟨#[]⟩, .string ⟨#[]⟩, .int .i64 0] 72)
  have hgB := World.grownBy_alloc W1 (.cells #[.int .i64 0, .string ⟨#[]⟩, .string ⟨#[]⟩, .int .i64 0] 72) none
  rw [hsA] at hB
  generalize (W1.alloc (.cells #[.int .i64 0, .string ⟨#[]⟩, .string ⟨#[]⟩, .int .i64 0] 72)) = W at *
  obtain ⟨b, hb⟩ : ∃ b, w.heap.size = b := ⟨_, rfl⟩
  have HBW := Lib.hid hb
  rw [hb] at hA hB ⊢
  obtain ⟨b1, hb1⟩ : ∃ x, b + 1 = x := ⟨_, rfl⟩
  rw [hb1] at hB ⊢
  have hlt : b < b1 := by omega
  have HA := Lib.hid (bx hgB hA); have HB := Lib.hid hB; have HG0 := Lib.hid (gb_trans hgA hgB)
  clear hA hB hgA hgB hsA hb hb1
  obtain ⟨a0, a1, a2, a3, a4⟩ := cells4' HA.out
  go_region_with (first
    | (go_at_call 59; refine (HX.out _).mono ?_; rintro e w2 ⟨rfl, hg2⟩; clear HX; have HA2 := Lib.hid (bx (o := .cells #[.int .i64 k, .string x, .string y, .int .i64 p] 72) hg2 (by first | exact HA.out | exact HA3.out | exact set_cells (i := 2) (u := .string y) HA3.out)); obtain ⟨c0, c1, c2, c3, c4⟩ := cells4' HA2.out; have HF2 : Hid (Fr2 (fun k => k = b) W w2) := Lib.hid (Fr2.trans (by first | exact HF3.out | exact HF3.out.setCell rfl _ | exact Fr2.none (by repeat (first | with_reducible exact gb_refl _ _ | with_reducible refine gb_drew ?_))) (Fr2.none hg2)); clear hg2)
    | (go_at_call 59; refine (HY.out _).mono ?_; rintro e w3 ⟨rfl, hg3⟩; clear HY; have HA3 := Lib.hid (bx (o := .cells #[.int .i64 k, .string x, .string y, .int .i64 p] 72) hg3 (by first | exact HA.out | exact HA2.out | exact set_cells (i := 1) (u := .string x) HA2.out)); obtain ⟨d0, d1, d2, d3, d4⟩ := cells4' HA3.out; have HF3 : Hid (Fr2 (fun k => k = b) W w3) := Lib.hid (Fr2.trans (by first | exact HF2.out | exact HF2.out.setCell rfl _ | exact Fr2.none (by repeat (first | with_reducible exact gb_refl _ _ | with_reducible refine gb_drew ?_))) (Fr2.none hg3)); clear hg3))
  all_goals
    have HA4 := Lib.hid (show ((w3.setCell ⟨b, 1, none⟩ (.string x)).setCell ⟨b, 2, none⟩ (.string y)).heap[b]? = some (.cells #[.int .i64 k, .string x, .string y, .int .i64 p] 72 (0, 0)) from set_cells (i := 2) (u := .string y) (set_cells (i := 1) (u := .string x) HA3.out))
    have HF4 := Lib.hid ((HF3.out.setCell (g := b) (j := 1) rfl (.string x)).setCell (g := b) (j := 2) rfl (.string y))
    have HB4 := Lib.hid (HF4.out.keep HB.out (by omega))
    generalize ((w3.setCell ⟨b, 1, none⟩ (.string x)).setCell ⟨b, 2, none⟩ (.string y)) = W4 at *
    clear HA HB a0 a1 a2 a3 a4 c0 c1 c2 c3 c4 d0 d1 d2 d3 d4 HA2 HA3 HF2 HF3
    obtain ⟨a0, a1, a2, a3, a4⟩ := cells4' HA4.out
    obtain ⟨c0, c1, c2, c3, c4⟩ := cells4' HB4.out
    have HB5 := Lib.hid (set_cells (i := 3) (u := .int .i64 p) (set_cells (i := 2) (u := .string y) (set_cells (i := 1) (u := .string x) (set_cells (i := 0) (u := .int .i64 k) HB4.out))))
    have HF5 := Lib.hid (((((HF4.out.mono (S' := fun k => k = b ∨ k = b1) (fun _ h => .inl h)).setCell (g := b1) (j := 0) (.inr rfl) (.int .i64 k)).setCell (g := b1) (j := 1) (.inr rfl) (.string x)).setCell (g := b1) (j := 2) (.inr rfl) (.string y)).setCell (g := b1) (j := 3) (.inr rfl) (.int .i64 p))
    go_wp2_with fail
    obtain ⟨k0, k1, k2, k3, -⟩ := cells4' HB5.out
    refine bodyPost_ret (v := .agg #[.int .i64 k, .string x, .string y, .int .i64 p]) (by simp [results, Tryz.results64, go_sem, k0, k1, k2, k3]) rfl ⟨rfl, Fr2.after HG0.out HF5.out (fun j hj => by rw [HBW.out]; omega)⟩
end Go.Proofs.YthclkbaankjbiaaGreatDoor
namespace Go.Proofs.YthclkbaankjbiaaGreatDoor
open Go.RowKit

theorem infoLT : (Tryz.prog.info? 72).map (fun i => (i.zero, i.size, i.bytes)) = some (some (.agg #[.int .i64 0, .string ⟨#[]⟩, .string ⟨#[]⟩, .int .i64 0]), 4, 48) := by kernel_rfl
theorem infoTN : (Tryz.prog.info? 39).map (fun i => (i.zero, i.size, i.bytes)) = some (some (.agg #[.int .i64 0, .int .i64 0, .slice none 0 0]), 3, 40) := by kernel_rfl

def rowT (l : List Tok) : List (List Value) := l.map tokV
theorem rowT_len (l : List Tok) : (rowT l).length = l.length := List.length_map _
theorem rowT_next {l : List Tok} {k : Nat} {t : Tok} (h : l[k]? = some t) : (rowT l).take (k + 1) = (rowT l).take k ++ [tokV t] := by
  rw [List.take_add_one]; unfold rowT; rw [List.getElem?_map, h]; rfl
theorem t_of_g {w : World} {p : Option Addr} {l : List Tok} (h : GAt 4 w p (rowT l)) : TAt w p l := by
  rcases h with h | ⟨g, off, rfl, hl, hc⟩
  · exact .inl (List.map_eq_nil_iff.1 h)
  · refine .inr ⟨g, off, rfl, hl, fun j q hj => ?_⟩
    have h1 : (rowT l)[j]? = some (tokV q) := by unfold rowT; rw [List.getElem?_map, hj]; rfl
    exact ⟨hc j _ h1 0 _ rfl, hc j _ h1 1 _ rfl, hc j _ h1 2 _ rfl, hc j _ h1 3 _ rfl⟩
theorem tokV_one (t : Tok) : ∀ u ∈ tokV t, u.oneCell' = true := fun u hu => by unfold tokV strV at hu; simp at hu; rcases hu with rfl | rfl | rfl | rfl <;> rfl

def OwnsT (l : List Tok) (w : World) (e : Ending) (w' : World) : Prop := ∃ v, e = .returned v ∧ OwnG 4 72 w' w.heap.size v (rowT l) ∧ w.grownBy w' none

/-- Every text of the tokens is short. -/
def Short (l : List Tok) : Prop := ∀ t ∈ l, t.lead.length ≤ 1000000 ∧ t.text.length ≤ 1000000

set_option maxRecDepth 100000 in
set_option maxHeartbeats 8000000 in
theorem ownTokens_c (l : List Tok) (q : Option Addr) (c : Nat) (w : World) (hl : l.length ≤ 100000) (hs : Short l) (h : TAt w q l) :
    Calls Tryz.prog 63 #[.slice q l.length c] w (OwnsT l w) := by
  obtain ⟨m, hm⟩ : ∃ m, l.length = m := ⟨_, rfl⟩
  have HM := Lib.hid hm; have HA := Lib.hid h; have HSH := Lib.hid hs
  rw [hm] at hl ⊢
  clear hm h hs
  obtain ⟨B, hB⟩ : ∃ B, w.heap.size = B := ⟨_, rfl⟩
  have HBW := Lib.hid hB
  have HP : Hid (∀ v w', OwnG 4 72 w' B v (rowT l) → Below B w w' → OwnsT l w (.returned v) w') := Lib.hid (fun v w' h1 h2 => ⟨v, rfl, by rw [hB]; exact h1, below_gb (by rw [hB]; exact h2)⟩)
  clear hB
  go_enter Tryz.func63, Tryz.ntmps63
  go_wp2_with fail
  go_loopw [3, 8] (fun ov iv wr => ∃ k : Nat, k ≤ m ∧ iv = .int .i64 k ∧ Hid (OwnG 4 72 wr B ov ((rowT l).take k)) ∧ Hid (Below B w wr)) (fun _ v _ => m - (intOf v).toNat)
  case atStart => exact ⟨0, Nat.zero_le _, rfl, Lib.hid (OwnG.nil _ _ _ _), Lib.hid (Below.refl _ _)⟩
  case round =>
    obtain ⟨k, hk, rfl, HO, HB⟩ := hrel
    have HG : Hid (w.grownBy wr none) := Lib.hid (below_gb (by rw [HBW.out]; exact HB.out))
    by_cases hlt : k < m
    · have d1 : decide ((k : Int) < (m : Int)) = true := decide_eq_true (by omega)
      have d1' : decide (k < m) = true := decide_eq_true hlt
      obtain ⟨t, ht⟩ : ∃ t, l[k]? = some t := ⟨l[k]'(by rw [HM.out]; exact hlt), List.getElem?_eq_getElem _⟩
      obtain ⟨g, off, rfl, hgl, hc⟩ := HA.out.resolve_left (fun h => by have h1 := HM.out; rw [h] at h1; simp at h1; omega)
      obtain ⟨c0, c1, c2, c3⟩ := hc k t ht
      have c0 := HG.out.cell c0 (by simp)
      have c1 := HG.out.cell c1 (by simp)
      have c2 := HG.out.cell c2 (by simp)
      have c3 := HG.out.cell c3 (by simp)
      have HNX := Lib.hid (rowT_next ht)
      obtain ⟨hs1, hs2⟩ := HSH.out t (List.mem_of_getElem? ht)
      unfold strV at c1 c2
      obtain ⟨x, hx⟩ : ∃ x : ByteArray, (⟨t.lead.toArray⟩ : ByteArray) = x := ⟨_, rfl⟩
      obtain ⟨y, hy⟩ : ∃ y : ByteArray, (⟨t.text.toArray⟩ : ByteArray) = y := ⟨_, rfl⟩
      have hxs : x.size ≤ 1000000 := by rw [← list_len, ← hx]; exact hs1
      have hys : y.size ≤ 1000000 := by rw [← list_len, ← hy]; exact hs2
      have HTV : Hid (tokV t = [.int .i64 (t.kind : Int), .string x, .string y, .int .i64 (t.pos : Int)]) := Lib.hid (by unfold tokV strV; rw [hx, hy])
      rw [hx] at c1
      rw [hy] at c2
      have H1C := Lib.hid (tokV_one t)
      have HLE : Hid (((rowT l).take k).length ≤ 1000000) := Lib.hid (by rw [List.length_take, rowT_len, HM.out]; omega)
      have HTK : Hid (((rowT l).take k).length = k) := Lib.hid (by rw [List.length_take, rowT_len, HM.out]; omega)
      have HOT := Lib.hid (fun W => ownToken_c (t.kind : Int) (t.pos : Int) x y W hxs hys)
      generalize (t.kind : Int) = tk at *
      generalize (t.pos : Int) = tp at *
      generalize (rowT l).take k = LK at HO HNX HLE HTK
      have hgX := World.grownBy_alloc wr (.cells #[.int .i64 tk, .string x, .string y, .int .i64 tp] 72) none
      have HX := Lib.hid (heap_alloc_new wr (.cells #[.int .i64 tk, .string x, .string y, .int .i64 tp] 72))
      have hgw : g < wr.heap.size := Nat.lt_of_lt_of_le hgl HG.out.size
      clear hc hx hy hxs hys hs1 hs2 ht
      go_wp2_with fail
      refine (HOT.out _).mono ?_
      rintro e w2 ⟨rfl, hg2⟩
      have HG2 := Lib.hid (gb_trans hgX hg2)
      have HO2 := Lib.hid (HO.out.kept HG2.out)
      have HB2 := Lib.hid (Below.trans2 HB.out (Below.gb HG2.out (by have := HB.out.size; have := HBW.out; omega)))
      have hB2 : B ≤ w2.heap.size := by have := HB2.out.size; have := HBW.out; omega
      clear hg2 hgX HX HO HB HG c0 c1 c2 c3
      go_wp2_with (at_builtin; go_loud (refine wpList_appGl (s := 4) (t := 23) (T := 72) (by decide) Tryz.underlying23 infoLT rfl (by omega) rfl _ _ rfl B LK (tokV t) (by rw [HTV.out]; rfl) H1C.out u3 rfl (OwnG.kept HO2.out (World.grownBy_alloc w2 _ none)) w2.heap.size _ (by rw [HTV.out]) (heap_alloc_new w2 _) rfl HLE.out (by simp; omega) (w2.heap.size + 1) (by simp) ?_))
      intro g9 cap9 w9 hO9 hg9 _
      rw [← HNX.out, HTK.out] at hO9
      have HO9 := Lib.hid hO9
      have HB9 := Lib.hid ((Below.trans2 HB2.out (Below.gb (World.grownBy_alloc w2 _ none) hB2)).grown hg9 (by simp; omega) (fun k e => (OwnG.at HO2.out k e).1))
      rw [HTK.out]
      clear hO9 hg9 HO2 HB2
      go_wp2_with fail
      go_roundw
      case rel => exact ⟨k + 1, by omega, by go_num, HO9, HB9⟩
      case measure => (simp [intOf] <;> omega)
    · obtain rfl : k = m := by omega
      rw [List.take_of_length_le (l := rowT l) (i := k) (by rw [rowT_len, HM.out]; exact Nat.le_refl _)] at HO
      go_wp2_with fail
      go_ret
      exact HP.out _ _ HO.out HB.out

/-! ### Nodes -/

theorem cells3' {w : World} {r : Nat} {a b c : Value} {T : TypeId} (h : w.heap[r]? = some (.cells #[a, b, c] T (0, 0))) : w.cell? ⟨r, 0, none⟩ = some a ∧ w.cell? ⟨r, 1, none⟩ = some b ∧ w.cell? ⟨r, 2, none⟩ = some c ∧ ∀ o, w.frozen? ⟨r, o, none⟩ = false :=
  ⟨by rw [cell_of_row w r 0 _ T (0, 0) h]; rfl, by rw [cell_of_row w r 1 _ T (0, 0) h]; rfl, by rw [cell_of_row w r 2 _ T (0, 0) h]; rfl, fun o => by simp [World.frozen?, h]⟩


def OwnsN (k t : Int) (l : List Int) (w : World) (e : Ending) (w' : World) : Prop := w.grownBy w' none ∧ ∃ p c, e = .returned (.agg #[.int .i64 k, .int .i64 t, .slice p l.length c]) ∧ VAt w' p (intsV l) ∧ l.length ≤ c ∧ (l ≠ [] → ∀ a, p = some a → w.heap.size ≤ a.block ∧ a.block < w'.heap.size)

set_option maxRecDepth 100000 in
set_option maxHeartbeats 8000000 in
theorem ownNode_c (k t : Int) (l : List Int) (q : Option Addr) (c : Nat) (w : World) (hl : l.length ≤ 100000) (h : VAt w q (intsV l)) :
    Calls Tryz.prog 65 #[.agg #[.int .i64 k, .int .i64 t, .slice q l.length c]] w (OwnsN k t l w) := by
  have HP : Hid (∀ p n c w', n = l.length → w.grownBy w' none → OwnL w' w.heap.size (.slice p n c) l → OwnsN k t l w (.returned (.agg #[.int .i64 k, .int .i64 t, .slice p n c])) w') := Lib.hid (fun p n c w' hn hg ho => by
    subst hn
    obtain ⟨p', c', e, hv, h1, -, h2⟩ := ho.parts
    injection e with e1 e2 e3
    subst e1; subst e3
    exact ⟨hg, p, c, rfl, hv, h1, fun hne a ha => ⟨h2 hne a ha, by
      subst ha
      obtain ⟨g, off, e, hl, -⟩ := hv.resolve_left (fun h0 => hne (List.length_eq_zero_iff.1 (by have := congrArg List.length h0; rwa [intsV_len] at this)))
      cases e; exact hl⟩⟩)
  have HV := Lib.hid h
  have HLL : Hid ((one (intsV l)).length = l.length) := Lib.hid (by rw [one_len, intsV_len])
  obtain ⟨m, hm⟩ : ∃ m, l.length = m := ⟨_, rfl⟩
  rw [hm] at HP HLL hl ⊢
  clear hm h
  go_enter Tryz.func65, Tryz.ntmps65
  have HZ := Lib.hid (OwnG.nil 1 3)
  have hA := heap_alloc_new w (.cells #[.int .i64 k, .int .i64 t, .slice q m c] 39)
  have hgA := World.grownBy_alloc w (.cells #[.int .i64 k, .int .i64 t, .slice q m c] 39) none
  have hsA : (w.alloc (.cells #[.int .i64 k, .int .i64 t, .slice q m c] 39)).heap.size = w.heap.size + 1 := by simp
  go_upto_region 1 with fail
  generalize (w.alloc (.cells #[.int .i64 k, .int .i64 t, .slice q m c] 39)) = W1 at *
  have hB := heap_alloc_new W1 (.cells #[.int .i64 0, .int .i64 0, .slice none 0 0] 39)
  have hgB := World.grownBy_alloc W1 (.cells #[.int .i64 0, .int .i64 0, .slice none 0 0] 39) none
  have hsB : (W1.alloc (.cells #[.int .i64 0, .int .i64 0, .slice none 0 0] 39)).heap.size = w.heap.size + 2 := by simp [hsA]
  rw [hsA] at hB
  generalize (W1.alloc (.cells #[.int .i64 0, .int .i64 0, .slice none 0 0] 39)) = W at *
  obtain ⟨b, hb⟩ : ∃ b, w.heap.size = b := ⟨_, rfl⟩
  have HBW := Lib.hid hb
  rw [hb] at hA hB hsB ⊢
  obtain ⟨b1, hb1⟩ : ∃ x, b + 1 = x := ⟨_, rfl⟩
  rw [hb1] at hB ⊢
  have hlt : b < b1 := by omega
  have hb2 : b1 < W.heap.size := by omega
  have hb2' : b + 2 ≤ W.heap.size := by omega
  have hb3 : b1 < b + 2 := by omega
  have HA := Lib.hid (bx hgB hA); have HB := Lib.hid hB; have HG0 := Lib.hid (gb_trans hgA hgB)
  have HVG := Lib.hid (g_of_v (HV.out.kept HG0.out))
  clear hA hB hgA hgB hsA hsB hb hb1
  obtain ⟨a0, a1, a2, a3⟩ := cells3' HA.out
  go_wp2_with (at_builtin; go_loud (refine wpList_appGs (s := 1) (t := 37) (T := 3) (by decide) Tryz.underlying37 infoI rfl (by omega) rfl _ _ rfl (b + 2) [] (one (intsV l)) (one_wid (intsV_one l)) (.slice none 0 0) rfl (HZ.out _ _) q m c rfl HLL.out HVG.out (by simp) (by omega) hb2' ?_))
  intro p9 n9 cap9 w9 hn9 hO9 hB9 hg9
  obtain rfl : n9 = m := by simpa using hn9
  have hO9 : OwnG 1 3 w9 (b + 2) (.slice p9 n9 cap9) (one (intsV l)) := hO9
  have HO9 := Lib.hid hO9
  have HB9 := Lib.hid hB9
  have hA9 := (hB9.block b (by omega)).trans HA.out
  have hC9 := (hB9.block b1 (by omega)).trans HB.out
  have hA10 := set_cells (i := 2) (u := .slice p9 n9 cap9) hA9
  have HF10 := Lib.hid (Fr2.setCell (S := fun k => k = b ∨ k = b1) (Fr2.refl _ w9) (g := b) (j := 2) (.inl rfl) (.slice p9 n9 cap9))
  have hC10 := (Below.heap_setCell w9 ⟨b, 2, none⟩ (.slice p9 n9 cap9) b1 (by first | omega | (simp; omega))).trans hC9
  obtain ⟨d0, d1, d2, d3⟩ := cells3' hA9
  obtain ⟨f0, f1, f2, f3⟩ := cells3' hC9
  have HC11 := Lib.hid (set_cells (i := 2) (u := .slice p9 n9 cap9) (set_cells (i := 1) (u := .int .i64 t) (set_cells (i := 0) (u := .int .i64 k) hC10)))
  have HF11 := Lib.hid (((HF10.out.setCell (g := b1) (j := 0) (.inr rfl) (.int .i64 k)).setCell (g := b1) (j := 1) (.inr rfl) (.int .i64 t)).setCell (g := b1) (j := 2) (.inr rfl) (.slice p9 n9 cap9))
  clear hn9 hO9 hB9 hg9 a0 a1 a2 a3 HA HB hA9 hC9 hA10 hC10 HF10
  go_wp2_with fail
  obtain ⟨k0, k1, k2, -⟩ := cells3' HC11.out
  refine bodyPost_ret (v := .agg #[.int .i64 k, .int .i64 t, .slice p9 n9 cap9]) (by simp [results, Tryz.results65, go_sem, k0, k1, k2]) rfl (HP.out _ _ _ _ rfl ?_ ?_)
  · exact Fr2.after (gb_trans HG0.out (gb_refl _ _)) ((Fr2.ofBelow HB9.out).mono (S' := fun j => b ≤ j) (fun j hj => by omega) |>.trans (HF11.out.mono (fun j hj => by omega))) (fun j hj => by rw [HBW.out]; exact hj)
  · have h1 := HO9.out.keptF HF11.out (fun j e => by have := (OwnG.at HO9.out j e).1; omega)
    rw [HBW.out]
    exact ⟨⟨h1.1.1, h1.1.2.imp id fun ⟨g, cap, cur, e, hb, r⟩ => ⟨g, cap, cur, e, by omega, r⟩⟩, h1.2⟩
end Go.Proofs.YthclkbaankjbiaaGreatDoor
