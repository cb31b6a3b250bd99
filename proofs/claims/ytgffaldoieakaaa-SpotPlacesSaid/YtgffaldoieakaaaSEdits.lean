/- The law's edits; the document's Right. -/
import Derived.Test.YtgffaldoieakaaaSAnc
namespace Go.Proofs.Ytgffaldoieakaaa
open Go.RowKit

theorem elemRE : (Try.prog.info? 69).map (fun i => (i.zero, i.size, i.bytes)) = some (some (.agg #[.int .i64 0, .string ⟨#[]⟩]), 2, 24) := by kernel_rfl

def smallE (l : List Ed) : Bool := l.all fun e => decide (e.2.size ≤ 200)

def EditsPost (l : List Ed) (w : World) (e : Ending) (w' : World) : Prop :=
  w.grownBy w' none ∧ if smallE l then ∃ v, e = .returned (.tuple #[v, .bool true]) ∧ OwnQ 69 w' w.heap.size v (l.map edV) else e = .returned (.tuple #[.slice none 0 0, .bool false])

set_option maxRecDepth 100000 in
set_option maxHeartbeats 4000000 in
theorem edits_c (p : Option Addr) (c : Nat) (l : List Ed) (w : World) (hl : l.length ≤ 20) (h : QAt w p (l.map edV)) :
    Calls Try.prog 14 #[.slice p l.length c] w (EditsPost l w) := by
  obtain ⟨m, hm⟩ : ∃ m, l.length = m := ⟨_, rfl⟩
  have HM := Lib.hid hm; have HA := Lib.hid h
  rw [hm] at hl ⊢
  clear hm h
  have d1 : decide ((20 : Int) < m) = false := decide_eq_false (by omega)
  have d1' : decide (20 < m) = false := decide_eq_false (by omega)
  go_enter Try.func14, Try.ntmps14
  go_wp2_with fail
  go_loopw [4, 12] (fun v i wr => ∃ (k : Nat), k ≤ m ∧ i = .int .i64 k ∧ Hid (OwnQ 69 wr w.heap.size v ((l.take k).map edV)) ∧ Hid (smallE (l.take k) = true) ∧ Hid (w.grownBy wr none)) (fun _ i _ => m - (intOf i).toNat)
  case atStart => exact ⟨0, by omega, rfl, Lib.hid (OwnQ.nil _ _ _), Lib.hid rfl, gb_refl _ _⟩
  case round =>
    obtain ⟨k, hk, rfl, HOW, HS, HG⟩ := hrel
    by_cases hlt : k < m
    · obtain ⟨⟨at', tx⟩, he⟩ : ∃ e, l[k]? = some e := ⟨l[k]'(by rw [HM.out]; exact hlt), List.getElem?_eq_getElem _⟩
      obtain ⟨g, off, rfl, hgl, hc⟩ := HA.out.resolve_left (fun h => by have h1 := HM.out; simp at h; rw [h] at h1; simp at h1; omega)
      obtain ⟨c0, c1⟩ := hc k (.int .i64 at', .string tx) (by rw [List.getElem?_map, he]; rfl)
      have c0 := HG.out.cell c0 (by simp)
      have c1 := HG.out.cell c1 (by simp)
      have htk0 : l.take (k + 1) = l.take k ++ [(at', tx)] := by rw [List.take_add_one, he]; rfl
      have htk : (l.take (k + 1)).map edV = (l.take k).map edV ++ [(.int .i64 at', .string tx)] := by rw [htk0]; simp [edV]
      have hln : ((l.take k).map edV).length ≤ 1000000 := by simp; omega
      have hmem := List.mem_of_getElem? he
      obtain ⟨LK, hLK⟩ : ∃ LK, (l.take k).map edV = LK := ⟨_, rfl⟩
      rw [hLK] at HOW htk hln
      have HTK := Lib.hid htk; have HTK0 := Lib.hid htk0; have HLN := Lib.hid hln; have HMEM := Lib.hid hmem
      obtain ⟨z, hz⟩ : ∃ z, tx.size = z := ⟨_, rfl⟩
      have HZ := Lib.hid hz
      have HBX := Lib.hid (heap_alloc_new wr (.cells #[.int .i64 at', .string tx] 56))
      have hga := World.grownBy_alloc wr (.cells #[.int .i64 at', .string tx] 56) none
      have HO := Lib.hid (HOW.out.kept hga); have HG2 := Lib.hid (gb_trans HG.out hga)
      obtain ⟨b0, b1, b2⟩ := cells2 HBX.out
      clear hc hgl he hga b2 htk htk0 hln hLK hmem
      by_cases hbig : 200 < z
      · have d2 : decide ((200 : Int) < z) = true := decide_eq_true (by omega)
        have d2' : decide (200 < z) = true := decide_eq_true hbig
        go_wp2_with fail
        go_ret2
        refine ⟨HG2.out, ?_⟩
        have : smallE l = false := by
          unfold smallE
          rw [List.all_eq_false]
          refine ⟨_, HMEM.out, ?_⟩
          have := HZ.out
          simp only [decide_eq_true_eq]
          omega
        rw [this]
        rfl
      · have d2 : decide ((200 : Int) < z) = false := decide_eq_false (by omega)
        have d2' : decide (200 < z) = false := decide_eq_false hbig
        have HS2 : Hid (smallE (l.take (k + 1)) = true) := Lib.hid (by
          rw [HTK0.out]
          have h1 := HS.out
          have h2 := HZ.out
          unfold smallE at h1 ⊢
          rw [List.all_append, h1, Bool.true_and, List.all_cons, List.all_nil, Bool.and_true, decide_eq_true_eq]
          show tx.size ≤ 200
          omega)
        clear HZ
        go_wp2_with (at_builtin; go_loud (refine wpList_appQ (t := 39) (T := 69) Try.underlying39 elemRE rfl (by omega) rfl _ _ rfl w.heap.size LK (.int .i64 at') (.string tx) rfl rfl u4 rfl HO.out (wr.heap.size + 1) (by simp) rfl HLN.out HG2.out.size ?_))
        intro g' cap' w3 hO3 hB3 _
        have HO3 := Lib.hid (show OwnQ 69 w3 w.heap.size _ ((l.take (k + 1)).map edV) from by rw [HTK.out]; exact hO3); have HG3 : Hid (w.grownBy w3 none) := Lib.hid (below_gb (Below.trans2 (gb_below HG2.out) hB3))
        clear hO3 hB3
        go_wp2_with fail
        go_roundw
        case rel => exact ⟨k + 1, by omega, by go_num, HO3, HS2, HG3⟩
        case measure => simp [intOf]; omega
    · obtain rfl : k = m := by omega
      rw [List.take_of_length_le (by rw [HM.out]; exact Nat.le_refl _)] at HOW HS
      go_wp2_with fail
      go_ret2
      refine ⟨HG.out, ?_⟩
      rw [HS.out]
      exact ⟨_, rfl, HOW.out⟩

set_option maxRecDepth 100000 in
set_option maxHeartbeats 4000000 in
theorem Right_c (s : ByteArray) (p : Option Addr) (c : Nat) (l : List Ed) (w : World) (hs : s.size ≤ 300) (hl : l.length ≤ 20) (hsm : smallE l = true) (h : QAt w p (l.map edV)) :
    Calls Try.prog 16 #[.string s, .slice p l.length c] w (BoolPost (rightB s.size l) w) := by
  obtain ⟨n, hsz⟩ : ∃ n, s.size = n := ⟨_, rfl⟩
  obtain ⟨m, hm⟩ : ∃ m, l.length = m := ⟨_, rfl⟩
  have HM := Lib.hid hm; have HA := Lib.hid h; have HSM := Lib.hid hsm
  rw [hsz] at hs ⊢
  rw [hm] at hl ⊢
  clear hm h hsm
  have hb : rightB n l = rightE n 0 (65536 - n) l := by unfold rightB; rw [if_neg (by omega)]
  rw [hb]
  clear hb
  obtain ⟨res, hres⟩ : ∃ r, rightE n 0 (65536 - n) l = r := ⟨_, rfl⟩
  rw [hres]
  have HRES := Lib.hid hres
  clear hres
  go_enter Try.func16, Try.ntmps16
  go_wp2_with fail
  go_loopw [5, 6, 7] (fun av zv i wr => ∃ (k : Nat) (a b : Int), k ≤ m ∧ i = .int .i64 k ∧ av = .int .i64 a ∧ zv = .int .i64 b ∧ 0 ≤ a ∧ a ≤ n ∧ 0 ≤ b ∧ b ≤ 65536 ∧ Hid (rightE n a (65536 - b) (l.drop k) = res) ∧ Hid (w.grownBy wr none)) (fun _ _ i _ => m - (intOf i).toNat)
  case atStart => exact ⟨0, 0, n, by omega, rfl, rfl, rfl, by omega, by omega, by omega, by omega, HRES, gb_refl _ _⟩
  case round =>
    clear HRES
    obtain ⟨k, a, b, hk, rfl, rfl, rfl, ha0, han, hb0, hb1, HR, HG⟩ := hrel
    by_cases hlt : k < m
    · obtain ⟨⟨at', t⟩, he⟩ : ∃ e, l[k]? = some e := ⟨l[k]'(by rw [HM.out]; exact hlt), List.getElem?_eq_getElem _⟩
      obtain ⟨g, off, rfl, hgl, hc⟩ := HA.out.resolve_left (fun h => by have h1 := HM.out; simp at h; rw [h] at h1; simp at h1; omega)
      obtain ⟨c0, c1⟩ := hc k (.int .i64 at', .string t) (by rw [List.getElem?_map, he]; rfl)
      have c0 := HG.out.cell c0 (by simp)
      have c1 := HG.out.cell c1 (by simp)
      have hr := HR.out
      rw [drop_one he] at hr
      unfold rightE at hr
      obtain ⟨z, htz⟩ : ∃ z, t.size = z := ⟨_, rfl⟩
      have hz2 : z ≤ 200 := by
        have := HSM.out
        unfold smallE at this
        rw [List.all_eq_true] at this
        have := this _ (List.mem_of_getElem? he)
        simp only [decide_eq_true_eq] at this
        omega
      simp only [htz] at hr
      clear he hc hgl
      have hwz : IntKind.i64.wrap (b + (z : Int)) = b + z := IntWalk.i64_in _ (by omega)
      by_cases t1 : at' < a
      · rw [if_pos (.inl t1)] at hr
        have d2 : decide (at' < a) = true := decide_eq_true t1
        have HF := Lib.hid hr
        clear hr
        go_wp2_with fail
        go_ret
        exact ⟨by rw [← HF.out]; rfl, HG.out⟩
      have d2 : decide (at' < a) = false := decide_eq_false t1
      by_cases t2 : (n : Int) < at'
      · rw [if_pos (.inr (.inl t2))] at hr
        have d3 : decide ((n : Int) < at') = true := decide_eq_true t2
        have HF := Lib.hid hr
        clear hr
        go_wp2_with fail
        go_ret
        exact ⟨by rw [← HF.out]; rfl, HG.out⟩
      have d3 : decide ((n : Int) < at') = false := decide_eq_false t2
      by_cases t3 : z = 0
      · rw [if_pos (.inr (.inr (.inl t3)))] at hr
        have HF := Lib.hid hr
        clear hr
        subst t3
        go_wp2_with fail
        go_ret
        exact ⟨by rw [← HF.out]; rfl, HG.out⟩
      have d3e : ((z : Int) == 0) = false := by simp; exact t3
      by_cases t4 : 65536 - b < (z : Int)
      · rw [if_pos (.inr (.inr (.inr t4)))] at hr
        have d4 : decide (65536 < b + (z : Int)) = true := decide_eq_true (by omega)
        have HF := Lib.hid hr
        clear hr
        go_wp2_with fail
        go_ret
        exact ⟨by rw [← HF.out]; rfl, HG.out⟩
      have d4 : decide (65536 < b + (z : Int)) = false := decide_eq_false (by omega)
      rw [if_neg (fun h => by omega)] at hr
      rw [show 65536 - b - (z : Int) = 65536 - (b + z) by omega] at hr
      have HF := Lib.hid hr
      clear hr
      go_wp2_with fail
      go_roundw
      case rel => exact ⟨k + 1, at', b + z, by omega, by go_num, rfl, by first | rfl | go_num, by omega, by omega, by omega, by omega, HF, HG⟩
      case measure => simp [intOf]; omega
    · obtain rfl : k = m := by omega
      have hr := HR.out
      rw [List.drop_of_length_le (by rw [HM.out]; exact Nat.le_refl _)] at hr
      unfold rightE at hr
      have HF := Lib.hid hr
      have d5 : decide (b ≤ 65536) = true := decide_eq_true hb1
      clear hr
      go_wp2_with fail
      go_ret
      exact ⟨by rw [← HF.out]; rfl, HG.out⟩
end Go.Proofs.Ytgffaldoieakaaa
