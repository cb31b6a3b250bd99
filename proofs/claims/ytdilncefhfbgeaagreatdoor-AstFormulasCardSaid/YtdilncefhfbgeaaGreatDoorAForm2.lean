/- FormulaOf, of the tree of a formula. -/
import Derived.Test.YtdilncefhfbgeaaGreatDoorAForm
import Derived.Test.YtdilncefhfbgeaaGreatDoorAExpr2
set_option linter.unusedVariables false
set_option linter.unusedSimpArgs false
namespace Go.Proofs.YtdilncefhfbgeaaGreatDoor
open Go.RowKit

theorem three0 (w : World) (A : Obj) : ∃ (W : World) (b0 : Nat), W = w.alloc A ∧ w.heap.size = b0 ∧ W.heap[b0]? = some A ∧ w.grownBy W none :=
  ⟨_, _, rfl, rfl, heap_alloc_new w A, World.grownBy_alloc w A none⟩

set_option maxRecDepth 100000 in
set_option maxHeartbeats 16000000 in
theorem FormulaOf_c (s : ByteArray) (D : Int) (hs : s.size ≤ 25000) (hok : (ansQ s.data.toList D true).2.1 = 0) (pt pn : Option Addr) (ct cn : Nat) (K : Kf) (w : World) (hla : LaidE w) (hls : LaidS w) (ht : TAt w pt (allE s.data.toList).1) (hn : NodesAt w pn (nodesQ s.data.toList D true) K) (hN : (nodesQ s.data.toList D true).length ≤ 2 * (allE s.data.toList).1.length) :
    Calls Tryz.prog 27 #[.agg #[.slice pt (allE s.data.toList).1.length ct, .slice pn (nodesQ s.data.toList D true).length cn]] w (FormPost (formE s.data.toList D) w) := by
  have HNR := Lib.hid (fun W h1 h2 h3 => newReaderF_c s D hs hok pt pn ct cn K W h1 h2 h3 hN)
  have hsl : s.data.toList.length = s.size := list_len s
  have hR := read_f (l := s.data.toList) (by omega) hok
  have hlen := len_all hR.lex
  obtain ⟨t, ks, k0, hx, hk0, hgd, hax, hsz⟩ := form_root hR
  obtain ⟨l, hl⟩ : ∃ l, s.data.toList = l := ⟨_, rfl⟩
  rw [hl] at HNR hR hlen hx hgd hax hsz hN ht hn hsl ⊢
  have HT := Lib.hid ht; have HN := Lib.hid hn; have HLA := Lib.hid hla; have HLS := Lib.hid hls
  obtain ⟨T, hT⟩ : ∃ T, (allE l).1 = T := ⟨_, rfl⟩
  obtain ⟨N, hNN⟩ : ∃ N, nodesQ l D true = N := ⟨_, rfl⟩
  rw [hT, hNN] at HNR ⊢
  rw [hT] at HT hlen hgd hN hax
  rw [hNN] at HN hx hgd hN hsz
  have HEX := Lib.hid (fun (pt pn : Option Addr) (ct cn : Nat) (K : Kf) W h1 h2 h3 => expr_c (T := T) (N := N) (K := K) (by omega) (by omega) pt pn ct cn N.length t (k0 : Int) W (by omega) hsz hgd h1 h2 h3)
  have HKD := Lib.hid (fun (pt pn : Option Addr) (mt ct cn : Nat) (K : Kf) W h => kids_r (K := K) (by omega) hx pt pn mt ct cn W h)
  have HRT := Lib.hid (fun (pt pn : Option Addr) (mt ct cn : Nat) W => Root_c pt pn mt ct N.length cn (by have := (List.getElem?_eq_some_iff.1 hx).1; omega) (by omega) W)
  have HKV : Hid (∀ (pn : Option Addr) (K : Kf) W, NodesAt W pn N K → VAt W (K (N.length - 1)).1 (intsV ks)) := Lib.hid (fun pn K W h => h.2 _ _ hx)
  have HK0 := Lib.hid hk0; have HX := Lib.hid hx; have HAX := Lib.hid hax
  rw [← hax]
  have hkl : ks.length ≤ 150000 := by
    have := kids_few (l := l) (D := D) (f := true) (by rw [hNN]; omega) _ _ (by rw [hNN]; exact hx)
    exact this
  have hkp : 0 < ks.length := (List.getElem?_eq_some_iff.1 hk0).1
  clear ht hn hla hls hok hR hlen hN hs hsl hx hgd hsz hk0 hT hNN hl hax
  obtain ⟨m, hm⟩ : ∃ m, T.length = m := ⟨_, rfl⟩
  obtain ⟨M, hM⟩ : ∃ M, N.length = M := ⟨_, rfl⟩
  obtain ⟨L, hL⟩ : ∃ L, ks.length = L := ⟨_, rfl⟩
  rw [hm, hM] at HNR HEX ⊢
  rw [hM] at HKD HRT
  have HKD : Hid (∀ (pt pn : Option Addr) (mt ct cn : Nat) (K : Kf) (W : World), NodesAt W pn N K → Calls Tryz.prog 63 #[.agg #[.slice pt mt ct, .slice pn M cn], .int .i64 ((M - 1 : Nat) : Int)] W (ValPost (.slice (K (M - 1)).1 L (K (M - 1)).2) W)) := Lib.hid (by rw [← hL]; exact HKD.out)
  rw [hM] at HKV
  rw [hL] at hkl hkp
  obtain ⟨R, hRR⟩ : ∃ R, M - 1 = R := ⟨_, rfl⟩
  rw [hRR] at HKD HKV HRT
  have Hm := Lib.hid hm; have HM := Lib.hid hM
  clear hm hM hL hRR HX
  have z0 : decide (0 < L) = true := decide_eq_true hkp
  have z1 : (0 : Int) < (L : Int) := by omega
  have z2 : decide ((0 : Int) < (L : Int)) = true := decide_eq_true z1
  go_enter Tryz.func27, Tryz.ntmps27
  go_wp2_with fail
  obtain ⟨W, b0, b1, hW, e0, e1, hB0, hB1, hgW, h01⟩ := two w (.cells #[.slice pt m ct, .slice pn M cn] 26) (.cells #[.int .i64 0, .string ⟨#[]⟩, .string ⟨#[]⟩, .bool false, .slice none 0 0, .bool false, .slice none 0 0, .int .i64 0] 60)
  have HB1 := Lib.hid hB1; have HGW := Lib.hid hgW; have HE0 := Lib.hid e0
  clear hB0 hB1 hgW
  try rw [← hW]
  try rw [e1]
  try rw [e0]
  clear e0 e1 hW
  refine (HNR.out _ (HLA.out.kept HGW.out) (HT.out.kept HGW.out) (HN.out.kept HGW.out)).mono ?_
  rintro e w1 ⟨hg1, pt', ct', pn', cn', K', rfl, hta, hna⟩
  rw [Hm.out, HM.out]
  have HG1 := Lib.hid (gb_trans HGW.out hg1)
  have HB11 := Lib.hid (bx hg1 HB1.out)
  have HTA := Lib.hid hta; have HNA := Lib.hid hna
  clear hg1 hta hna HNR
  go_wp2_with fail
  obtain ⟨W3, b2, hW3, e2, hB2, hgW3⟩ := three0 w1 (.cells #[.slice pt' m ct', .slice pn' M cn'] 105)
  have HB2 := Lib.hid hB2
  have hb12 : b1 < b2 := by have := hlt HB11.out; omega
  have HG3 := Lib.hid (gb_trans HG1.out hgW3)
  have HB13 := Lib.hid (bx hgW3 HB11.out)
  have HT3 := Lib.hid (HTA.out.kept hgW3); have HN3 := Lib.hid (HNA.out.kept hgW3); have HL3 := Lib.hid (HLS.out.kept HG3.out)
  have HKV3 := Lib.hid (HKV.out _ _ _ HN3.out)
  obtain ⟨g, off, hpk, hgl, ck⟩ := kid_at HKV3.out HK0.out
  have HKD : Hid (∀ (W : World), NodesAt W pn' N K' → Calls Tryz.prog 63 #[.agg #[.slice pt' m ct', .slice pn' M cn'], .int .i64 (R : Int)] W (ValPost (.slice (some ⟨g, off, none⟩) L (K' R).2) W)) := Lib.hid (by rw [← hpk]; exact fun W h => HKD.out pt' pn' m ct' cn' K' W h)
  have HCK := Lib.hid ck
  have HGL := Lib.hid hgl
  rw [Nat.add_zero] at ck
  clear hB2 hgW3 hpk
  try rw [← hW3]
  try rw [e2]
  clear e2 hW3
  obtain ⟨a0, a1, a2⟩ := cells2 HB2.out
  have hb2s : b2 < W3.heap.size := hlt HB2.out
  have hb1s : b1 < W3.heap.size := hlt HB13.out
  have HRT := Lib.hid (fun W => HRT.out pt' pn' m ct' cn' W)
  have HEX := Lib.hid (fun W h1 h2 h3 => HEX.out pt' pn' ct' cn' K' W h1 h2 h3)
  have HB23 := Lib.hid HB2.out
  clear HB2 HKV3 HKV
  go_wp2_with fail
  go_region_with (first
    | (go_at_call 29; refine (HRT.out _).mono ?_; rintro e w4 ⟨rfl, hg4⟩; have HG4 := Lib.hid (gb_trans (show W3.grownBy _ none from (by repeat (first | with_reducible exact gb_refl _ _ | with_reducible refine gb_drew ?_))) hg4); have hs4 := HG4.out.size; have hb24 := bx HG4.out HB23.out; obtain ⟨p0, p1, p2⟩ := cells2 hb24; have hb2s4 := hlt hb24; clear hg4 hb24 a0 a1 a2 HRT hs4)
    | (go_at_call 63; refine (HKD.out _ (HN3.out.kept (gb_trans HG4.out (by repeat (first | with_reducible exact gb_refl _ _ | with_reducible refine gb_drew ?_))))).mono ?_; rintro e w5 ⟨rfl, hg5⟩; have HG5 := Lib.hid (gb_trans (gb_trans HG4.out (show w4.grownBy _ none from (by repeat (first | with_reducible exact gb_refl _ _ | with_reducible refine gb_drew ?_)))) hg5); have ck5 := HG5.out.cell HCK.out (by simp); have hgl5 := Nat.lt_of_lt_of_le HGL.out HG5.out.size; rw [Nat.add_zero] at ck5; have hb25 := bx HG5.out HB23.out; obtain ⟨r0, r1, r2⟩ := cells2 hb25; have hb2s5 := hlt hb25; clear hg5 hb25 p0 p1 p2 HKD ck hgl)
    | (go_at_call 62; refine (HEX.out _ (HT3.out.kept (gb_trans HG5.out (by repeat (first | with_reducible exact gb_refl _ _ | with_reducible refine gb_drew ?_)))) (HN3.out.kept (gb_trans HG5.out (by repeat (first | with_reducible exact gb_refl _ _ | with_reducible refine gb_drew ?_)))) (HL3.out.kept (gb_trans HG5.out (by repeat (first | with_reducible exact gb_refl _ _ | with_reducible refine gb_drew ?_))))).mono ?_; rintro e w6 ⟨hg6, q, rfl, hq⟩; obtain ⟨xo, xp, xa, xb, xs, xy, xq, xr, xn, xc, xm, xd, rfl⟩ := hq.form; have HQ := Lib.hid hq; have HG6 := Lib.hid (gb_trans (gb_trans HG5.out (show w5.grownBy _ none from (by repeat (first | with_reducible exact gb_refl _ _ | with_reducible refine gb_drew ?_)))) hg6); have hb16 := bx HG6.out HB13.out; have HB16 := Lib.hid hb16; obtain ⟨x0, x1, x2, x3, x4, x5, x6, x7, x8⟩ := cells8x hb16; have hb1s6 := hlt hb16; clear hg6 hq hb16 r0 r1 r2 ck5 hgl5 HEX HT3 HN3 HL3 HCK HGL))
  all_goals
    go_wp2_with fail
    obtain ⟨hp, hf⟩ := put8c HB16.out (.int .i64 xo) (.string xa) (.string xb) (.bool xs) (.slice xq xn xc) (.bool xy) (.slice xr xm xd) (.int .i64 xp)
    obtain ⟨f0, f1, f2, f3, f4, f5, f6, f7, -⟩ := cells8x hp
    have HFX := Lib.hid (Fr2.after (gb_trans HG3.out HG6.out) hf (fun i hi => by have e : i = b1 := hi; have := HE0.out; omega))
    have HPX : Hid (FormPost (axT T t) w (.returned (.tuple #[.agg #[.int .i64 xo, .string xa, .string xb, .bool xs, .slice xq xn xc, .bool xy, .slice xr xm xd, .int .i64 xp], .int .i64 0])) _) := Lib.hid ⟨HFX.out, _, rfl, EAt.mono (fun k hk => by have h1 := hk.1; have h2 := (gb_trans HG3.out HG5.out).size; exact Nat.le_trans h2 h1) (EAt.same hf (fun k hk e => by have e : k = b1 := e; have h1 : w5.heap.size ≤ k := hk.1; have h2 := HG5.out.size; omega) HQ.out.bound)⟩
    first
      | (refine bodyPost_ret (v := .tuple #[.agg #[.int .i64 xo, .string xa, .string xb, .bool xs, .slice xq xn xc, .bool xy, .slice xr xm xd, .int .i64 xp], .int .i64 0]) (by simp [results, Tryz.results27, go_sem, f0, f1, f2, f3, f4, f5, f6, f7]) rfl HPX.out)
end Go.Proofs.YtdilncefhfbgeaaGreatDoor
