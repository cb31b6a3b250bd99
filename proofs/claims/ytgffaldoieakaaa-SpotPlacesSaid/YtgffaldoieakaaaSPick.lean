/- Spans: Pick; the document's Within. -/
import Derived.Test.YtgffaldoieakaaaSSpans
namespace Go.Proofs.Ytgffaldoieakaaa
open Go.RowKit

theorem elemS : (Try.prog.info? 9).map (fun i => (i.zero, i.size, i.bytes)) = some (some (.string ⟨#[]⟩), 1, 16) := by kernel_rfl

set_option maxRecDepth 100000 in
theorem Clone_c (s : ByteArray) (w : World) (hlim : s.size ≤ 281474976710656) : Calls Try.prog 25 #[.string s] w (ValPost (.string s) w) := by
  have H := Lib.hid (Try.stringslite_Clone s w hlim)
  go_enter Try.func25, Try.ntmps25
  go_wp2_with fail
  refine H.out.mono ?_
  rintro e w1 ⟨rfl, hb⟩
  have HB := Lib.hid hb
  clear hb
  go_wp2_with fail
  go_ret
  exact ⟨rfl, below_gb HB.out⟩

/-- What Pick answers. -/
def PickPost (s : ByteArray) (l : List Sp) (w : World) (e : Ending) (w' : World) : Prop :=
  w.grownBy w' none ∧ if withinE s.size 0 l then ∃ q c, e = .returned (.tuple #[.slice q l.length c, .int .i64 0]) ∧ OwnV 9 w' w.heap.size (.slice q l.length c) ((pickB s l).map Value.string) else e = .returned (.tuple #[.slice none 0 0, .int .i64 10])

set_option maxRecDepth 100000 in
set_option maxHeartbeats 8000000 in
theorem Pick_c (s : ByteArray) (p : Option Addr) (c : Nat) (l : List Sp) (w : World) (hs : s.size ≤ 1000000) (hl : l.length ≤ 1000000) (h : QAt w p (l.map spI)) :
    Calls Try.prog 18 #[.string s, .slice p l.length c] w (PickPost s l w) := by
  have HR := Lib.hid (rightSpans_c s p c l w (by omega) (by omega) h)
  cases hr : withinE s.size 0 l with
  | false =>
    rw [hr] at HR
    have HF := Lib.hid hr
    clear h hr
    generalize l.length = m at *
    go_enter Try.func18, Try.ntmps18
    go_wp2_with fail
    refine HR.out.mono ?_
    rintro e w1 ⟨rfl, hg⟩
    have HG := Lib.hid hg
    clear hg
    go_wp2_with fail
    go_ret2
    unfold PickPost
    rw [HF.out]
    exact ⟨HG.out, rfl⟩
  | true =>
    rw [hr] at HR
    obtain ⟨hpw, hbd⟩ := withinE_all (by omega) hr
    have HF := Lib.hid hr; have HBD := Lib.hid hbd; have HA := Lib.hid h
    obtain ⟨m, hm⟩ : ∃ m, l.length = m := ⟨_, rfl⟩
    have HM := Lib.hid hm
    rw [hm] at HR hl ⊢
    obtain ⟨n, hn⟩ : ∃ n, s.size = n := ⟨_, rfl⟩
    have HN := Lib.hid hn
    have hmk : ∀ W, (Instr.makeSlice 33 (.int .i64 0) (.int .i64 (m : Int))).run Try.prog W = .ok (.slice (some ⟨W.heap.size, 0, none⟩) 0 m) (W.alloc (.cells (madeCells #[.string ⟨#[]⟩] m) 9)) := fun W =>
      run_make_room (P := Try.prog) 33 9 (.string ⟨#[]⟩) 16 Try.underlying33 elemS rfl .i64 .i64 m (by omega) (by omega) W
    clear h hr hbd hpw hm
    rw [hn] at hs
    go_enter Try.func18, Try.ntmps18
    go_wp2_with fail
    refine HR.out.mono ?_
    rintro e w1 ⟨rfl, hg⟩
    have HG := Lib.hid hg
    clear hg
    go_wp2_with fail
    have hB := HG.out.size
    have hga0 := World.grownBy_alloc w1 (.cells (madeCells #[.string ⟨#[]⟩] m) 9) none
    have hgw := gb_trans HG.out hga0
    have how : OwnV 9 (w1.alloc (.cells (madeCells #[.string ⟨#[]⟩] m) 9)) w.heap.size (.slice (some ⟨w1.heap.size, 0, none⟩) 0 m) [] :=
      World.ownsRow_made w1 (madeCells #[.string ⟨#[]⟩] m) m hB (by unfold maxLen; omega) (by simp [size_madeCells])
    generalize (w1.alloc (.cells (madeCells #[.string ⟨#[]⟩] m) 9)) = W at *
    generalize Value.slice (some ⟨w1.heap.size, 0, none⟩) 0 m = v0 at *
    have HOW := Lib.hid how; have HGW := Lib.hid hgw
    clear how hgw hga0 HG hmk
    go_loopw [6, 18] (fun v i wr => ∃ (k : Nat), k ≤ m ∧ i = .int .i64 k ∧ Hid (OwnV 9 wr w.heap.size v ((pickB s (l.take k)).map Value.string)) ∧ Hid (w.grownBy wr none)) (fun _ i _ => m - (intOf i).toNat)
    case atStart => exact ⟨0, by omega, rfl, HOW, HGW⟩
    case round =>
      clear HOW HGW
      obtain ⟨k, hk, rfl, HOW, HG⟩ := hrel
      by_cases hlt : k < m
      · obtain ⟨⟨fr, to⟩, he⟩ : ∃ e, l[k]? = some e := ⟨l[k]'(by rw [HM.out]; exact hlt), List.getElem?_eq_getElem _⟩
        obtain ⟨g, off, rfl, hgl, hc⟩ := HA.out.resolve_left (fun h => by have h1 := HM.out; simp at h; rw [h] at h1; simp at h1; omega)
        obtain ⟨c0, c1⟩ := hc k (.int .i64 fr, .int .i64 to) (by rw [List.getElem?_map, he]; rfl)
        have c0 := HG.out.cell c0 (by simp)
        have c1 := HG.out.cell c1 (by simp)
        have hmem := HBD.out _ (List.mem_of_getElem? he)
        simp only at hmem
        obtain ⟨z, rfl⟩ : ∃ z : Nat, fr = (z : Int) := ⟨fr.toNat, by omega⟩
        obtain ⟨y, rfl⟩ : ∃ y : Nat, to = (y : Int) := ⟨to.toNat, by omega⟩
        have hyn : y ≤ n := by have := HN.out; omega
        have hzy : z < y := by omega
        have htk : l.take (k + 1) = l.take k ++ [((z : Int), (y : Int))] := by rw [List.take_add_one, he]; rfl
        have HPK : Hid ((pickB s (l.take (k + 1))).map Value.string = (pickB s (l.take k)).map Value.string ++ [Value.string (s.extract z y)]) := Lib.hid (by
          rw [htk]; simp [pickB])
        have HLN : Hid (((pickB s (l.take k)).map Value.string).length ≤ 1000000) := Lib.hid (by simp [pickB]; omega)
        have HBX := Lib.hid (heap_alloc_new wr (.cells #[.int .i64 z, .int .i64 y] 53))
        have hga := World.grownBy_alloc wr (.cells #[.int .i64 z, .int .i64 y] 53) none
        have how := HOW.out.kept hga
        have hg2 := gb_trans HG.out hga
        have hxs : (s.extract z y).size ≤ 281474976710656 := by rw [ByteArray.size_extract]; omega
        have HCL := Lib.hid (Clone_c (s.extract z y) (wr.alloc (.cells #[.int .i64 z, .int .i64 y] 53)) hxs)
        have HO := Lib.hid how; have HG2 := Lib.hid hg2
        obtain ⟨b0, b1, b2⟩ := cells2 HBX.out
        clear hc hgl he hmem htk hga how hg2 hxs b2
        go_wp2_with fail
        generalize wr.alloc (.cells #[.int .i64 z, .int .i64 y] 53) = W1 at *
        refine HCL.out.mono ?_
        rintro e w2 ⟨rfl, hg⟩
        have HO2 := Lib.hid (HO.out.kept hg); have HG3 := Lib.hid (gb_trans HG2.out hg)
        clear hg HCL b0 b1 c0 c1
        go_wp2_with (at_builtin; go_loud (refine wpList_appV (t := 33) (T := 9) Try.underlying33 elemS rfl (by omega) rfl _ _ rfl w.heap.size ((pickB s (l.take k)).map Value.string) (.string (s.extract z y)) rfl u6 rfl HO2.out _ rfl rfl HLN.out HG3.out.size ?_))
        intro g' cap' w6 hO6 hB6 _ _
        rw [← HPK.out] at hO6
        have HO6 := Lib.hid hO6; have HG6 : Hid (w.grownBy w6 none) := Lib.hid (below_gb (Below.trans2 (gb_below HG3.out) hB6))
        clear hO6 hB6
        go_wp2_with fail
        go_roundw
        case rel => exact ⟨k + 1, by omega, by go_num, HO6, HG6⟩
        case measure => simp [intOf]; omega
      · obtain rfl : k = m := by omega
        rw [List.take_of_length_le (by rw [HM.out]; exact Nat.le_refl _)] at HOW
        obtain ⟨q, c', hq, -⟩ := HOW.out.is
        have hln : ((pickB s l).map Value.string).length = k := by simp [pickB, HM.out]
        rw [hln] at hq
        have HQ := Lib.hid hq
        clear hq hln
        go_wp2_with fail
        go_ret2
        unfold PickPost
        have hF := HF.out
        refine ⟨HG.out, ?_⟩
        rw [hF, if_pos rfl, HM.out]
        have hq := HQ.out
        subst hq
        exact ⟨q, c', rfl, HOW.out⟩

set_option maxRecDepth 100000 in
set_option maxHeartbeats 4000000 in
theorem Within_c (s : ByteArray) (p : Option Addr) (c : Nat) (l : List Sp) (w : World) (hs : s.size < 9223372036854775808) (hl : l.length ≤ 1000000000) (h : QAt w p (l.map spI)) :
    Calls Try.prog 20 #[.string s, .slice p l.length c] w (BoolPost (withinE s.size 0 l) w) := by
  obtain ⟨n, hsz⟩ : ∃ n, s.size = n := ⟨_, rfl⟩
  obtain ⟨m, hm⟩ : ∃ m, l.length = m := ⟨_, rfl⟩
  have HM := Lib.hid hm; have HA := Lib.hid h
  rw [hsz] at hs ⊢
  rw [hm] at hl ⊢
  clear hm h
  obtain ⟨res, hres⟩ : ∃ r, withinE n 0 l = r := ⟨_, rfl⟩
  rw [hres]
  have HRES := Lib.hid hres
  clear hres
  go_enter Try.func20, Try.ntmps20
  go_wp2_with fail
  go_loopw [5, 6] (fun av i wr => ∃ (k : Nat) (a : Int), k ≤ m ∧ i = .int .i64 k ∧ av = .int .i64 a ∧ 0 ≤ a ∧ a ≤ n ∧ Hid (withinE n a (l.drop k) = res) ∧ Hid (w.grownBy wr none)) (fun _ i _ => m - (intOf i).toNat)
  case atStart => exact ⟨0, 0, by omega, rfl, rfl, by omega, by omega, HRES, gb_refl _ _⟩
  case round =>
    clear HRES
    obtain ⟨k, a, hk, rfl, rfl, ha0, han, HR, HG⟩ := hrel
    by_cases hlt : k < m
    · obtain ⟨⟨fr, to⟩, he⟩ : ∃ e, l[k]? = some e := ⟨l[k]'(by rw [HM.out]; exact hlt), List.getElem?_eq_getElem _⟩
      obtain ⟨g, off, rfl, hgl, hc⟩ := HA.out.resolve_left (fun h => by have h1 := HM.out; simp at h; rw [h] at h1; simp at h1; omega)
      obtain ⟨c0, c1⟩ := hc k (.int .i64 fr, .int .i64 to) (by rw [List.getElem?_map, he]; rfl)
      have c0 := HG.out.cell c0 (by simp)
      have c1 := HG.out.cell c1 (by simp)
      have hr := HR.out
      rw [drop_one he] at hr
      unfold withinE at hr
      simp only at hr
      clear he hc hgl
      by_cases t1 : fr < a
      · rw [if_pos (.inl t1)] at hr
        have d2 : decide (fr < a) = true := decide_eq_true t1
        have HF := Lib.hid hr
        clear hr
        go_wp2_with fail
        go_quiet (fail)
        go_wp2_with fail
        go_ret
        exact ⟨by rw [← HF.out]; rfl, gb_drewN HG.out _⟩
      have d2 : decide (fr < a) = false := decide_eq_false t1
      by_cases t2 : to ≤ fr
      · rw [if_pos (.inr (.inl t2))] at hr
        have d3 : decide (to ≤ fr) = true := decide_eq_true t2
        have HF := Lib.hid hr
        clear hr
        go_wp2_with fail
        go_quiet (fail)
        go_wp2_with fail
        go_ret
        exact ⟨by rw [← HF.out]; rfl, gb_drewN HG.out _⟩
      have d3 : decide (to ≤ fr) = false := decide_eq_false t2
      by_cases t3 : (n : Int) < to
      · rw [if_pos (.inr (.inr t3))] at hr
        have d4 : decide ((n : Int) < to) = true := decide_eq_true t3
        have HF := Lib.hid hr
        clear hr
        go_wp2_with fail
        go_quiet (fail)
        go_wp2_with fail
        go_ret
        exact ⟨by rw [← HF.out]; rfl, gb_drewN HG.out _⟩
      have d4 : decide ((n : Int) < to) = false := decide_eq_false t3
      rw [if_neg (fun h => by omega)] at hr
      have HF := Lib.hid hr
      clear hr
      go_wp2_with fail
      go_quiet (fail)
      go_wp2_with fail
      go_roundw
      case rel => exact ⟨k + 1, to, by omega, by go_num, rfl, by omega, by omega, HF, gb_drewN HG.out _⟩
      case measure => simp [intOf]; omega
    · obtain rfl : k = m := by omega
      have hr := HR.out
      rw [List.drop_of_length_le (by rw [HM.out]; exact Nat.le_refl _)] at hr
      unfold withinE at hr
      have HF := Lib.hid hr
      clear hr
      go_wp2_with fail
      go_ret
      exact ⟨by rw [← HF.out]; rfl, HG.out⟩
end Go.Proofs.Ytgffaldoieakaaa
