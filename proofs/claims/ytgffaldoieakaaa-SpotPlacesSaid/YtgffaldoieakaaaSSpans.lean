/- Spans: are they right, Cut, Pick. -/
import Derived.Test.YtgffaldoieakaaaSAnc
import Derived.Test.YtgffaldoieakaaaSMath2
import Derived.Lib.JoinLaws
namespace Go.Proofs.Ytgffaldoieakaaa
open Go.RowKit

def spI (e : Sp) : Value × Value := (.int .i64 e.1, .int .i64 e.2)

set_option maxRecDepth 100000 in
set_option maxHeartbeats 4000000 in
theorem rightSpans_c (s : ByteArray) (p : Option Addr) (c : Nat) (l : List Sp) (w : World) (hs : s.size < 9223372036854775808) (hl : l.length ≤ 1000000000) (h : QAt w p (l.map spI)) :
    Calls Try.prog 30 #[.string s, .slice p l.length c] w (BoolPost (withinE s.size 0 l) w) := by
  obtain ⟨n, hsz⟩ : ∃ n, s.size = n := ⟨_, rfl⟩
  obtain ⟨m, hm⟩ : ∃ m, l.length = m := ⟨_, rfl⟩
  have HM := Lib.hid hm; have HA := Lib.hid h
  rw [hsz] at hs ⊢
  rw [hm] at hl ⊢
  clear hm h
  obtain ⟨res, hres⟩ : ∃ r, withinE n 0 l = r := ⟨_, rfl⟩
  rw [hres]
  have HRES := Lib.hid hres
  clear hres
  go_enter Try.func30, Try.ntmps30
  go_wp2_with fail
  go_loopw [5, 10] (fun av i wr => ∃ (k : Nat) (a : Int), k ≤ m ∧ i = .int .i64 k ∧ av = .int .i64 a ∧ 0 ≤ a ∧ a ≤ n ∧ Hid (withinE n a (l.drop k) = res) ∧ Hid (w.grownBy wr none)) (fun _ i _ => m - (intOf i).toNat)
  case atStart => exact ⟨0, 0, by omega, rfl, rfl, by omega, by omega, HRES, gb_refl _ _⟩
  case round =>
    clear HRES
    obtain ⟨k, a, hk, rfl, rfl, ha0, han, HR, HG⟩ := hrel
    by_cases hlt : k < m
    · obtain ⟨⟨fr, to⟩, he⟩ : ∃ e, l[k]? = some e := ⟨l[k]'(by rw [HM.out]; exact hlt), List.getElem?_eq_getElem _⟩
      obtain ⟨g, off, rfl, hgl, hc⟩ := HA.out.resolve_left (fun h => by have h1 := HM.out; simp at h; rw [h] at h1; simp at h1; omega)
      obtain ⟨c0, c1⟩ := hc k (.int .i64 fr, .int .i64 to) (by rw [List.getElem?_map, he]; rfl)
      have c0 := HG.out.cell c0 (by simp)
      have c1 := HG.out.cell c1 (by simp)
      have hr := HR.out
      rw [drop_one he] at hr
      unfold withinE at hr
      simp only at hr
      have HBX := Lib.hid (heap_alloc_new wr (.cells #[.int .i64 fr, .int .i64 to] 53))
      obtain ⟨b0, b1, b2⟩ := cells2 HBX.out
      have HG2 := Lib.hid (gb_alloc HG.out (.cells #[.int .i64 fr, .int .i64 to] 53))
      clear he hc hgl b2
      by_cases t1 : fr < a
      · rw [if_pos (.inl t1)] at hr
        have d2 : decide (fr < a) = true := decide_eq_true t1
        have HF := Lib.hid hr
        clear hr
        go_wp2_with fail
        go_ret
        exact ⟨by rw [← HF.out]; rfl, HG2.out⟩
      have d2 : decide (fr < a) = false := decide_eq_false t1
      by_cases t2 : to ≤ fr
      · rw [if_pos (.inr (.inl t2))] at hr
        have d3 : decide (to ≤ fr) = true := decide_eq_true t2
        have HF := Lib.hid hr
        clear hr
        go_wp2_with fail
        go_ret
        exact ⟨by rw [← HF.out]; rfl, HG2.out⟩
      have d3 : decide (to ≤ fr) = false := decide_eq_false t2
      by_cases t3 : (n : Int) < to
      · rw [if_pos (.inr (.inr t3))] at hr
        have d4 : decide ((n : Int) < to) = true := decide_eq_true t3
        have HF := Lib.hid hr
        clear hr
        go_wp2_with fail
        go_ret
        exact ⟨by rw [← HF.out]; rfl, HG2.out⟩
      have d4 : decide ((n : Int) < to) = false := decide_eq_false t3
      rw [if_neg (fun h => by omega)] at hr
      have HF := Lib.hid hr
      clear hr
      go_wp2_with fail
      go_roundw
      case rel => exact ⟨k + 1, to, by omega, by go_num, rfl, by omega, by omega, HF, HG2⟩
      case measure => simp [intOf]; omega
    · obtain rfl : k = m := by omega
      have hr := HR.out
      rw [List.drop_of_length_le (by rw [HM.out]; exact Nat.le_refl _)] at hr
      unfold withinE at hr
      have HF := Lib.hid hr
      clear hr
      go_wp2_with fail
      go_ret
      exact ⟨by rw [← HF.out]; rfl, HG.out⟩

/-- What Cut answers. -/
def CutPost (s : ByteArray) (l : List Sp) (w : World) (e : Ending) (w' : World) : Prop :=
  w.grownBy w' none ∧ if withinE s.size 0 l then e = .returned (.tuple #[.string ⟨(cutL s.data.toList l).toArray⟩, .int .i64 0]) else e = .returned (.tuple #[.string ⟨#[]⟩, .int .i64 10])

set_option maxRecDepth 100000 in
set_option maxHeartbeats 8000000 in
theorem Cut_c (s : ByteArray) (p : Option Addr) (c : Nat) (l : List Sp) (w : World) (hs : s.size ≤ 1000000) (hl : l.length ≤ 1000000) (h : QAt w p (l.map spI)) :
    Calls Try.prog 19 #[.string s, .slice p l.length c] w (CutPost s l w) := by
  have HR := Lib.hid (rightSpans_c s p c l w (by omega) (by omega) h)
  cases hr : withinE s.size 0 l with
  | false =>
    rw [hr] at HR
    have HF := Lib.hid hr
    clear h hr
    generalize l.length = m at *
    go_enter Try.func19, Try.ntmps19
    go_wp2_with fail
    refine HR.out.mono ?_
    rintro e w1 ⟨rfl, hg⟩
    have HG := Lib.hid hg
    clear hg
    go_wp2_with fail
    go_ret2
    unfold CutPost
    rw [HF.out]
    exact ⟨HG.out, rfl⟩
  | true =>
    rw [hr] at HR
    obtain ⟨hpw, hbd⟩ := withinE_all (by omega) hr
    have hsl : s.data.toList.length = s.size := Array.length_toList
    have hinv := cutSt_inv (s := s.data.toList) hpw (by rw [hsl]; exact fun e he => (hbd e he).2)
    have HF := Lib.hid hr; have HI := Lib.hid hinv; have HBD := Lib.hid hbd; have HA := Lib.hid h
    obtain ⟨m, hm⟩ : ∃ m, l.length = m := ⟨_, rfl⟩
    have HM := Lib.hid hm
    rw [hm] at HR hl ⊢
    obtain ⟨n, hn⟩ : ∃ n, s.size = n := ⟨_, rfl⟩
    have HN := Lib.hid hn; have HSL := Lib.hid hsl
    clear h hr hinv hbd hpw hm hsl
    rw [hn] at hs
    go_enter Try.func19, Try.ntmps19
    go_wp2_with fail
    refine HR.out.mono ?_
    rintro e w1 ⟨rfl, hg⟩
    have HG := Lib.hid hg
    clear hg
    go_wp2_with fail
    have hB := HG.out.size
    have hbl := bld_new w1 w.heap.size hB
    have hga0 := World.grownBy_alloc w1 (.cells #[.pointer none, .slice none 0 0] 72) none
    have hgw := gb_trans HG.out hga0
    generalize (w1.alloc (.cells #[.pointer none, .slice none 0 0] 72)) = W at *
    generalize w1.heap.size = b at *
    have HBL := Lib.hid hbl; have HGW := Lib.hid hgw
    clear hbl hgw hga0 HG
    go_loopw [7, 16] (fun cv i wr => ∃ (k : Nat) (out : List UInt8) (cp : Nat), k ≤ m ∧ i = .int .i64 k ∧ cv = .int .i64 cp ∧ Hid (cutSt s.data.toList (l.take k) = (cp, out)) ∧ Hid (Lib.IsBuilder 72 5 w.heap.size b (Lib.byteCells out) wr) ∧ Hid (w.grownBy wr none)) (fun _ i _ => m - (intOf i).toNat)
    case atStart => exact ⟨0, [], 0, by omega, rfl, rfl, Lib.hid rfl, HBL, HGW⟩
    case round =>
      clear HBL HGW
      obtain ⟨k, out, cp, hk, rfl, rfl, HST, HBL, HG⟩ := hrel
      obtain ⟨j1, j2, j4⟩ := HI.out k (by rw [HM.out]; exact hk)
      rw [HST.out] at j1 j2 j4
      have hcn : cp ≤ n := by rw [HSL.out, HN.out] at j1; exact j1
      have hol : out.length ≤ 1000000 := by simp only at j2; omega
      by_cases hlt : k < m
      · obtain ⟨⟨fr, to⟩, he⟩ : ∃ e, l[k]? = some e := ⟨l[k]'(by rw [HM.out]; exact hlt), List.getElem?_eq_getElem _⟩
        obtain ⟨g, off, rfl, hgl, hc⟩ := HA.out.resolve_left (fun h => by have h1 := HM.out; simp at h; rw [h] at h1; simp at h1; omega)
        obtain ⟨c0, c1⟩ := hc k (.int .i64 fr, .int .i64 to) (by rw [List.getElem?_map, he]; rfl)
        have c0 := HG.out.cell c0 (by simp)
        have c1 := HG.out.cell c1 (by simp)
        have hmem := HBD.out _ (List.mem_of_getElem? he)
        have hca := j4 k _ (Nat.le_refl _) he
        simp only at hmem hca
        obtain ⟨z, rfl⟩ : ∃ z : Nat, fr = (z : Int) := ⟨fr.toNat, by omega⟩
        obtain ⟨y, rfl⟩ : ∃ y : Nat, to = (y : Int) := ⟨to.toNat, by omega⟩
        have hyn : y ≤ n := by have := HN.out; omega
        have hzy : z < y := by omega
        have hcz : cp ≤ z := by simpa using hca
        have htk : l.take (k + 1) = l.take k ++ [((z : Int), (y : Int))] := by rw [List.take_add_one, he]; rfl
        obtain ⟨o1, ho1⟩ : ∃ o1, out ++ (s.data.toList.take z).drop cp = o1 := ⟨_, rfl⟩
        have HST2 : Hid (cutSt s.data.toList (l.take (k + 1)) = (y, o1)) := Lib.hid (by
          rw [htk, cutSt_snoc, HST.out, ← ho1]; rfl)
        have HBX := Lib.hid (heap_alloc_new wr (.cells #[.int .i64 z, .int .i64 y] 53))
        have hga := World.grownBy_alloc wr (.cells #[.int .i64 z, .int .i64 y] 53) none
        have hbl := bld_kept HBL.out hga
        have hg2 := gb_trans HG.out hga
        have hbw : w.heap.size ≤ (wr.alloc (.cells #[.int .i64 z, .int .i64 y] 53)).heap.size := hg2.size
        have HWS := Lib.hid (WriteString_c w.heap.size b _ (s.extract cp z) _ hbl (by rw [Lib.byteCells_length, ByteArray.size_extract]; omega) hbw)
        have HXS : Hid (b < wr.heap.size) := Lib.hid (by
          rcases HBL.out with h | h
          · exact h.lt
          · exact h.lt)
        have HG2 := Lib.hid hg2; have HO1 := Lib.hid ho1
        obtain ⟨b0, b1, b2⟩ := cells2 HBX.out
        clear j1 j2 j4 hc hgl he hmem hca htk ho1 hbl hg2 hbw hga b2
        go_wp2_with fail
        generalize wr.alloc (.cells #[.int .i64 z, .int .i64 y] 53) = W1 at *
        generalize wr.heap.size = hx at *
        refine HWS.out.mono ?_
        rintro e w2 ⟨rfl, ⟨hb2, hbe2⟩, hok2⟩
        have hbx2 := hok2 hx _ _ HBX.out (by decide) (by have := HXS.out; omega)
        have hcell2 : Lib.byteCells out ++ Lib.strCells (s.extract cp z) = Lib.byteCells o1 := by rw [cut_mid, ← Lib.byteCells_append, HO1.out]
        rw [hcell2] at hb2
        have hg3 : w.grownBy w2 none := below_gb (Below.trans2 (gb_below HG2.out) hbe2)
        have HB2 := Lib.hid (Or.inr (a := Lib.BuilderAt 72 5 w.heap.size b (.pointer none) (Lib.byteCells o1) w2) hb2)
        have HBX2 := Lib.hid hbx2; have HG3 := Lib.hid hg3
        obtain ⟨d0, d1, d2⟩ := cells2 HBX2.out
        clear hb2 hbe2 hok2 hbx2 hcell2 hg3 d2 b0 b1 c0 c1 HWS
        go_wp2_with fail
        go_roundw
        case rel => exact ⟨k + 1, o1, y, by omega, by go_num, rfl, HST2, HB2, HG3⟩
        case measure => simp [intOf]; omega
      · obtain rfl : k = m := by omega
        rw [List.take_of_length_le (by rw [HM.out]; exact Nat.le_refl _)] at HST
        have HWS := Lib.hid (WriteString_c w.heap.size b _ (s.extract cp n) wr HBL.out (by rw [Lib.byteCells_length, ByteArray.size_extract]; omega) HG.out.size)
        have hsz := HN.out
        clear j1 j2 j4
        go_wp2_with fail
        refine HWS.out.mono ?_
        rintro e w2 ⟨rfl, ⟨hb2, hbe2⟩, hok2⟩
        have hcell2 : Lib.byteCells out ++ Lib.strCells (s.extract cp n) = Lib.byteCells (cutL s.data.toList l) := by
          unfold cutL
          rw [cut_mid, ← Lib.byteCells_append, HST.out]
          rw [List.take_of_length_le (by rw [HSL.out, HN.out]; exact Nat.le_refl _)]
        rw [hcell2] at hb2
        have hg3 : w.grownBy w2 none := below_gb (Below.trans2 (gb_below HG.out) hbe2)
        have HSTR := Lib.hid (Try.Builder_String_any w.heap.size b _ w2 (.inr hb2) hg3.size)
        have HG3 := Lib.hid hg3
        clear hb2 hbe2 hok2 hcell2 hg3 HWS
        go_wp2_with fail
        refine HSTR.out.mono ?_
        rintro e w7 ⟨rfl, hbe7⟩
        have HG7 : Hid (w.grownBy w7 none) := Lib.hid (below_gb (Below.trans2 (gb_below HG3.out) hbe7))
        clear hbe7
        go_wp2_with fail
        go_ret2
        unfold CutPost
        have hF := HF.out
        refine ⟨HG7.out, ?_⟩
        rw [hF, if_pos rfl]
        rfl
end Go.Proofs.Ytgffaldoieakaaa
