/- Edits put in. -/
import Derived.Test.YtgffaldoieakaaaSRight
namespace Go.Proofs.Ytgffaldoieakaaa
open Go.RowKit

def spV (p : Nat × Nat) : Value × Value := (.int .i64 (p.1 : Nat), .int .i64 (p.2 : Nat))

theorem elemSp : (Try.prog.info? 53).map (fun i => (i.zero, i.size, i.bytes)) = some (some (.agg #[.int .i64 0, .int .i64 0]), 2, 16) := by kernel_rfl

/-- What Put answers. -/
def PutPost (s : ByteArray) (l : List Ed) (w : World) (e : Ending) (w' : World) : Prop :=
  w.grownBy w' none ∧ if rightB s.size l then ∃ q c, e = .returned (.tuple #[.string ⟨(putL s.data.toList l).toArray⟩, .slice q l.length c, .int .i64 0]) ∧ OwnQ 53 w' w.heap.size (.slice q l.length c) ((putSt s.data.toList l).2.2.map spV)
    else e = .returned (.tuple #[.string ⟨#[]⟩, .slice none 0 0, .int .i64 10])

theorem cut_mid (s : ByteArray) (a b : Nat) : Lib.strCells (s.extract a b) = Lib.byteCells ((s.data.toList.take b).drop a) := by
  rw [Lib.strCells_eq, Lib.extract_data, List.drop_take]

set_option maxRecDepth 100000 in
set_option maxHeartbeats 4000000 in
theorem Put_no (s : ByteArray) (p : Option Addr) (c : Nat) (l : List Ed) (w : World) (hs : s.size < 9223372036854775808) (hl : l.length ≤ 1000000) (h : QAt w p (l.map edV)) (hr : rightB s.size l = false) :
    Calls Try.prog 15 #[.string s, .slice p l.length c] w (PutPost s l w) := by
  have HR := Lib.hid (rightEdits_c s p c l w hs (by omega) h)
  rw [hr] at HR
  have HF := Lib.hid hr
  clear h hr
  generalize l.length = m at *
  go_enter Try.func15, Try.ntmps15
  go_wp2_with fail
  refine HR.out.mono ?_
  rintro e w1 ⟨rfl, hg⟩
  have HG := Lib.hid hg
  clear hg
  go_wp2_with fail
  go_ret3
  unfold PutPost
  rw [HF.out]
  exact ⟨HG.out, rfl⟩

set_option maxRecDepth 100000 in
set_option maxHeartbeats 8000000 in
theorem Put_yes (s : ByteArray) (p : Option Addr) (c : Nat) (l : List Ed) (w : World) (hs : s.size < 9223372036854775808) (hl : l.length ≤ 1000000) (h : QAt w p (l.map edV)) (hr : rightB s.size l = true) :
    Calls Try.prog 15 #[.string s, .slice p l.length c] w (PutPost s l w) := by
  obtain ⟨hn6, hpw, hbd, hsz6⟩ := rightB_all hr
  have hsl : s.data.toList.length = s.size := Array.length_toList
  have hinv := putSt_inv (s := s.data.toList) hpw (by rw [hsl]; exact hbd)
  have HR := Lib.hid (rightEdits_c s p c l w hs (by omega) h)
  rw [hr] at HR
  have HF := Lib.hid hr; have HI := Lib.hid hinv; have HBD := Lib.hid hbd; have HA := Lib.hid h
  obtain ⟨m, hm⟩ : ∃ m, l.length = m := ⟨_, rfl⟩
  have HM := Lib.hid hm
  rw [hm] at HR hl ⊢
  obtain ⟨n, hn⟩ : ∃ n, s.size = n := ⟨_, rfl⟩
  have HN := Lib.hid hn; have HSL := Lib.hid hsl
  have HSZ : Hid (n + sizes l ≤ 65536) := Lib.hid (by rw [← hn]; exact hsz6)
  have hmk := make2_run (t := 42) (T := 53) Try.underlying42 elemSp (by omega) m hl
  clear h hr hinv hbd hpw hsz6 hm hsl
  rw [hn] at hn6 hs
  go_enter Try.func15, Try.ntmps15
  go_wp2_with fail
  refine HR.out.mono ?_
  rintro e w1 ⟨rfl, hg⟩
  have HG := Lib.hid hg
  clear hg
  go_wp2_with fail
  have hB := HG.out.size
  have hbl0 := bld_new w1 w.heap.size hB
  have hga0 := World.grownBy_alloc w1 (.cells #[.pointer none, .slice none 0 0] 72) none
  have hga1 := World.grownBy_alloc (w1.alloc (.cells #[.pointer none, .slice none 0 0] 72)) (.cells (madeCells #[.int .i64 0, .int .i64 0] (m * 2)) 53) none
  have hbl := bld_kept hbl0 hga1
  have how : OwnQ 53 ((w1.alloc (.cells #[.pointer none, .slice none 0 0] 72)).alloc (.cells (madeCells #[.int .i64 0, .int .i64 0] (m * 2)) 53)) w.heap.size (.slice (some ⟨w1.heap.size + 1, 0, none⟩) 0 m) [] := by
    have h := World.ownsRow_made (base := w.heap.size) (e := 53) (size := 2) (w1.alloc (.cells #[.pointer none, .slice none 0 0] 72)) (madeCells #[.int .i64 0, .int .i64 0] (m * 2)) m (by simp; omega) (by unfold maxLen; omega) (size_madeCells _ _)
    simpa [OwnQ, cellsQ] using h
  have hgw := gb_trans HG.out (gb_trans hga0 hga1)
  have hne : (Value.slice (some ⟨w1.heap.size + 1, 0, none⟩) 0 m).ownBlock ≠ some w1.heap.size := by simp [Value.ownBlock]
  generalize ((w1.alloc (.cells #[.pointer none, .slice none 0 0] 72)).alloc (.cells (madeCells #[.int .i64 0, .int .i64 0] (m * 2)) 53)) = W at *
  generalize Value.slice (some ⟨w1.heap.size + 1, 0, none⟩) 0 m = sv0 at *
  have HBB : Hid (w.heap.size ≤ w1.heap.size) := Lib.hid hB
  generalize w1.heap.size = b at *
  have HBL := Lib.hid hbl; have HOW := Lib.hid how; have HGW := Lib.hid hgw; have HNE := Lib.hid hne
  clear hbl how hgw hne hbl0 hga0 hga1 hmk HG
  go_loopw [8, 9, 22] (fun sv cv i wr => ∃ (k : Nat) (out : List UInt8) (cp : Nat) (sp : List (Nat × Nat)), k ≤ m ∧ i = .int .i64 k ∧ cv = .int .i64 cp ∧ Hid (putSt s.data.toList (l.take k) = (cp, out, sp)) ∧ Hid (Lib.IsBuilder 72 5 w.heap.size b (Lib.byteCells out) wr) ∧ Hid (OwnQ 53 wr w.heap.size sv (sp.map spV) ∧ sv.ownBlock ≠ some b) ∧ Hid (w.grownBy wr none)) (fun _ _ i _ => m - (intOf i).toNat)
  case atStart => exact ⟨0, [], 0, [], by omega, rfl, rfl, Lib.hid rfl, HBL, Lib.hid ⟨HOW.out, HNE.out⟩, HGW⟩
  case round =>
    clear HBL HOW HGW HNE
    obtain ⟨k, out, cp, sp, hk, rfl, rfl, HST, HBL, HOW, HG⟩ := hrel
    obtain ⟨j1, j2, j3, j4⟩ := HI.out k (by rw [HM.out]; exact hk)
    rw [HST.out] at j1 j2 j3 j4
    have hszk : sizes (l.take k) ≤ sizes l := by
      have : sizes l = sizes (l.take k) + sizes (l.drop k) := by
        unfold sizes; rw [← List.sum_append, ← List.map_append, List.take_append_drop]
      omega
    have hcn : cp ≤ n := by rw [HSL.out, HN.out] at j1; exact j1
    have hol : out.length ≤ 65536 := by have := HSZ.out; simp only at j2; omega
    by_cases hlt : k < m
    · obtain ⟨⟨at', tx⟩, he⟩ : ∃ e, l[k]? = some e := ⟨l[k]'(by rw [HM.out]; exact hlt), List.getElem?_eq_getElem _⟩
      obtain ⟨g, off, rfl, hgl, hc⟩ := HA.out.resolve_left (fun h => by have h1 := HM.out; simp at h; rw [h] at h1; simp at h1; omega)
      obtain ⟨c0, c1⟩ := hc k (.int .i64 at', .string tx) (by rw [List.getElem?_map, he]; rfl)
      have c0 := HG.out.cell c0 (by simp)
      have c1 := HG.out.cell c1 (by simp)
      have hmem := HBD.out _ (List.mem_of_getElem? he)
      have hca := j4 k _ (Nat.le_refl _) he
      simp only at hmem hca
      obtain ⟨z, rfl⟩ : ∃ z : Nat, at' = (z : Int) := ⟨at'.toNat, by omega⟩
      have hzn : z ≤ n := by have := HN.out; omega
      have hcz : cp ≤ z := by simpa using hca
      have htk : l.take (k + 1) = l.take k ++ [((z : Int), tx)] := by rw [List.take_add_one, he]; rfl
      have htx : tx.size ≤ 65536 := by
        have h1 : sizes (l.take (k + 1)) ≤ sizes l := by
          have : sizes l = sizes (l.take (k + 1)) + sizes (l.drop (k + 1)) := by
            unfold sizes; rw [← List.sum_append, ← List.map_append, List.take_append_drop]
          omega
        rw [htk, sizes_snoc] at h1
        have := HSZ.out
        simp only at h1
        omega
      obtain ⟨o1, ho1⟩ : ∃ o1, out ++ (s.data.toList.take z).drop cp = o1 := ⟨_, rfl⟩
      have ho1l : o1.length ≤ 65536 + 65536 := by
        rw [← ho1, List.length_append, List.length_drop, List.length_take]; omega
      have HST2 : Hid (putSt s.data.toList (l.take (k + 1)) = (z, o1 ++ tx.data.toList, sp ++ [(o1.length, o1.length + tx.size)])) := Lib.hid (by
        rw [htk, putSt_snoc, HST.out, ← ho1]; rfl)
      have HBX := Lib.hid (heap_alloc_new wr (.cells #[.int .i64 z, .string tx] 56))
      have hga := World.grownBy_alloc wr (.cells #[.int .i64 z, .string tx] 56) none
      have hbl := bld_kept HBL.out hga
      have how := HOW.out.1.kept hga
      have hg2 := gb_trans HG.out hga
      have hbw : w.heap.size ≤ (wr.alloc (.cells #[.int .i64 z, .string tx] 56)).heap.size := hg2.size
      have HWS := Lib.hid (WriteString_c w.heap.size b _ (s.extract cp z) _ hbl (by rw [Lib.byteCells_length, ByteArray.size_extract]; omega) hbw)
      have hxs : (wr.alloc (.cells #[.int .i64 z, .string tx] 56)).heap.size = wr.heap.size + 1 := by simp
      have HXS : Hid (b < wr.heap.size) := Lib.hid (by
        rcases HBL.out with h | h
        · exact h.lt
        · exact h.lt)
      have HHW := Lib.hid how; have HG2 := Lib.hid hg2; have HO1 := Lib.hid ho1; have HL1 := Lib.hid ho1l; have HTX := Lib.hid htx
      obtain ⟨b0, b1, b2⟩ := cells2 HBX.out
      clear j1 j2 j3 j4 hszk hc hgl he hmem hca htk htx ho1 ho1l hbl how hg2 hbw hxs hga b2
      go_wp2_with fail
      generalize wr.alloc (.cells #[.int .i64 z, .string tx] 56) = W1 at *
      generalize wr.heap.size = hx at *
      refine HWS.out.mono ?_
      rintro e w2 ⟨rfl, ⟨hb2, hbe2⟩, hok2⟩
      have hbx2 := hok2 hx _ _ HBX.out (by decide) (by have := HXS.out; omega)
      have hcell2 : Lib.byteCells out ++ Lib.strCells (s.extract cp z) = Lib.byteCells o1 := by rw [cut_mid, ← Lib.byteCells_append, HO1.out]
      rw [hcell2] at hb2
      have how2 := HHW.out.okept hok2 (by decide) HOW.out.2
      have hg3 : w.grownBy w2 none := below_gb (Below.trans2 (gb_below HG2.out) hbe2)
      have HB2 := Lib.hid (Or.inr (a := Lib.BuilderAt 72 5 w.heap.size b (.pointer none) (Lib.byteCells o1) w2) hb2)
      have HBX2 := Lib.hid hbx2; have HOW2 := Lib.hid how2; have HG3 := Lib.hid hg3
      have HLN2 := Lib.hid (Try.Builder_Len w.heap.size b _ w2 HB2.out)
      rw [Lib.byteCells_length] at HLN2
      obtain ⟨n1, hn1⟩ : ∃ n1, o1.length = n1 := ⟨_, rfl⟩
      rw [hn1] at HLN2
      have HN1 := Lib.hid hn1
      obtain ⟨d0, d1, d2⟩ := cells2 HBX2.out
      clear hb2 hbe2 hok2 hbx2 hcell2 how2 hg3 hn1 d2 b0 b1 c0 c1 HWS HHW
      go_wp2_with fail
      refine HLN2.out.mono ?_
      rintro e w3 ⟨rfl, rfl⟩
      have HWS := Lib.hid (WriteString_c w.heap.size b _ tx w3 HB2.out (by rw [Lib.byteCells_length]; have h1 := HL1.out; have h2 := HTX.out; omega) HG3.out.size)
      clear HLN2
      go_wp2_with fail
      refine HWS.out.mono ?_
      rintro e w4 ⟨rfl, ⟨hb4, hbe4⟩, hok4⟩
      rw [Lib.strCells_eq, ← Lib.byteCells_append] at hb4
      have how4 := HOW2.out.okept hok4 (by decide) HOW.out.2
      have hg4 : w.grownBy w4 none := below_gb (Below.trans2 (gb_below HG3.out) hbe4)
      have HB4 := Lib.hid (Or.inr (a := Lib.BuilderAt 72 5 w.heap.size b (.pointer none) (Lib.byteCells (o1 ++ tx.data.toList)) w4) hb4)
      have HOW4 := Lib.hid how4; have HG4 := Lib.hid hg4
      have HLN4 := Lib.hid (Try.Builder_Len w.heap.size b _ w4 HB4.out)
      rw [Lib.byteCells_length] at HLN4
      obtain ⟨n2, hn2⟩ : ∃ n2, (o1 ++ tx.data.toList).length = n2 := ⟨_, rfl⟩
      rw [hn2] at HLN4
      have HN2 : Hid (n2 = n1 + tx.size) := Lib.hid (by
        rw [← hn2, List.length_append, HN1.out]
        have : tx.data.toList.length = tx.size := Array.length_toList
        omega)
      have HSPL : Hid ((sp.map spV).length ≤ 1000000) := Lib.hid (by
        obtain ⟨-, -, j3, -⟩ := HI.out k (by rw [HM.out]; exact hk)
        rw [HST.out] at j3
        simp only at j3
        rw [List.length_map, j3]; omega)
      clear hb4 hbe4 hok4 how4 hg4 hn2 HWS d0 d1
      go_wp2_with fail
      refine HLN4.out.mono ?_
      rintro e w5 ⟨rfl, rfl⟩
      clear HLN4
      go_wp2_with (at_builtin; go_loud (refine wpList_appQ (t := 42) (T := 53) Try.underlying42 elemSp rfl (by omega) rfl _ _ rfl w.heap.size (sp.map spV) (.int .i64 n1) (.int .i64 n2) rfl rfl u8 rfl HOW4.out _ rfl rfl HSPL.out HG4.out.size ?_))
      intro g' cap' w6 hO6 hB6 hfr6
      have HB6 : Hid (Lib.IsBuilder 72 5 w.heap.size b (Lib.byteCells (o1 ++ tx.data.toList)) w6) := Lib.hid (by
        rcases HOW4.out.2 with ⟨e, -⟩ | ⟨g0, cap, cur, e, -, hh, -⟩
        · rw [e] at hfr6; exact bld_kept HB4.out hfr6
        · rw [e] at hfr6
          exact bld_keptS HB4.out hfr6 hh (by decide) (fun e2 => HOW.out.2 (by rw [e]; exact congrArg some e2)))
      have HO6 : Hid (OwnQ 53 w6 w.heap.size (.slice (some ⟨g', 0, none⟩) (sp.length + 1) cap') ((sp ++ [(n1, n2)]).map spV)) := Lib.hid (by rw [List.map_append]; exact hO6)
      have HG6 : Hid (w.grownBy w6 none) := Lib.hid (below_gb (Below.trans2 (gb_below HG4.out) hB6))
      have HNB : Hid ((Value.slice (some ⟨g', 0, none⟩) (sp.length + 1) cap').ownBlock ≠ some b) := Lib.hid (by
        intro e
        simp only [Value.ownBlock, Option.some.injEq] at e
        subst e
        rcases HO6.out.2 with ⟨e, -⟩ | ⟨g0, cap, cur, e, -, hh, -⟩
        · cases e
        · injection e with e; injection e with e; injection e with e
          subst e
          rcases HB6.out with ⟨-, v, hb, -⟩ | ⟨-, v, hb, -⟩
          · rw [hh] at hb; simp at hb
          · rw [hh] at hb; simp at hb)
      have HST3 : Hid (putSt s.data.toList (l.take (k + 1)) = (z, o1 ++ tx.data.toList, sp ++ [(n1, n2)])) := Lib.hid (by
        rw [HST2.out, HN2.out, HN1.out])
      clear hO6 hB6 hfr6
      go_wp2_with fail
      go_roundw
      case rel => exact ⟨k + 1, _, z, _, by omega, by go_num, rfl, HST3, HB6, Lib.hid ⟨HO6.out, HNB.out⟩, HG6⟩
      case measure => simp [intOf]; omega
    · obtain rfl : k = m := by omega
      rw [List.take_of_length_le (by rw [HM.out]; exact Nat.le_refl _)] at HST
      have HWS := Lib.hid (WriteString_c w.heap.size b _ (s.extract cp n) wr HBL.out (by rw [Lib.byteCells_length, ByteArray.size_extract]; omega) HG.out.size)
      have hsz := HN.out
      clear j1 j2 j3 j4 hszk
      go_wp2_with fail
      refine HWS.out.mono ?_
      rintro e w2 ⟨rfl, ⟨hb2, hbe2⟩, hok2⟩
      have hcell2 : Lib.byteCells out ++ Lib.strCells (s.extract cp n) = Lib.byteCells (putL s.data.toList l) := by
        unfold putL
        rw [cut_mid, ← Lib.byteCells_append, HST.out]
        rw [List.take_of_length_le (by rw [HSL.out, HN.out]; exact Nat.le_refl _)]
      rw [hcell2] at hb2
      have how2 := HOW.out.1.okept hok2 (by decide) HOW.out.2
      have hg3 : w.grownBy w2 none := below_gb (Below.trans2 (gb_below HG.out) hbe2)
      have HSTR := Lib.hid (Try.Builder_String_any_k w.heap.size b _ w2 (Lib.IsBuilderF.of (.inr hb2)) hg3.size)
      have HOW2 := Lib.hid how2; have HG3 := Lib.hid hg3
      clear hb2 hbe2 hok2 hcell2 how2 hg3 HWS
      go_wp2_with fail
      refine HSTR.out.mono ?_
      rintro e w7 ⟨rfl, -, hbe7, hok7⟩
      have hg7 : w.grownBy w7 none := below_gb (Below.trans2 (gb_below HG3.out) hbe7)
      have how7 : OwnQ 53 w7 w.heap.size u8 (sp.map spV) := by
        refine ⟨HOW2.out.1, HOW2.out.2.imp id fun ⟨g, cap, cur, e, hh, hb1, r⟩ => ⟨g, cap, cur, e, hh, hok7 g _ hb1 (fun e2 => HOW.out.2 (by rw [e]; exact e2)) (fun c fz e2 => by injection e2 with _ e2; exact absurd e2 (by decide)), r⟩⟩
      obtain ⟨q, c', hq, -⟩ := how7.is
      have hspl : (sp.map spV).length = k := by
        obtain ⟨-, -, j3, -⟩ := HI.out k (by rw [HM.out]; exact Nat.le_refl _)
        rw [List.take_of_length_le (by rw [HM.out]; exact Nat.le_refl _), HST.out] at j3
        simp only at j3
        rw [List.length_map, j3]
      have HG7 := Lib.hid hg7; have HOW7 := Lib.hid how7; have HQ := Lib.hid (hspl ▸ hq)
      clear hbe7 hok7 hg7 how7 hspl hq
      go_wp2_with fail
      go_ret3
      unfold PutPost
      have hF := HF.out
      refine ⟨HG7.out, ?_⟩
      rw [hF, if_pos rfl, HM.out]
      have hq := HQ.out
      subst hq
      refine ⟨q, c', rfl, ?_⟩
      rw [HST.out]
      exact HOW7.out

theorem Put_c (s : ByteArray) (p : Option Addr) (c : Nat) (l : List Ed) (w : World) (hs : s.size < 9223372036854775808) (hl : l.length ≤ 1000000) (h : QAt w p (l.map edV)) :
    Calls Try.prog 15 #[.string s, .slice p l.length c] w (PutPost s l w) := by
  cases hr : rightB s.size l with
  | true => exact Put_yes s p c l w hs hl h hr
  | false => exact Put_no s p c l w hs hl h hr
end Go.Proofs.Ytgffaldoieakaaa
