/- Lemmas. -/
import Derived.Test.YtijpelkjeejjfaaGreatDoorP26
import Derived.Test.YtijpelkjeejjfaaGreatDoorP39
set_option linter.unusedVariables false
set_option linter.unusedSimpArgs false
namespace Go.Proofs.YtijpelkjeejjfaaGreatDoor
open Go.RowKit

theorem keep8z {w2 : World} {B gg j : Nat} {v a b c d e f g h : Value} (hv : w2.cell? ⟨gg, j, none⟩ = some v) (hne : B ≠ gg) : ((((((((w2.setCell ⟨B, 0, none⟩ a).setCell ⟨B, 1, none⟩ b).setCell ⟨B, 2, none⟩ c).setCell ⟨B, 3, none⟩ d).setCell ⟨B, 4, none⟩ e).setCell ⟨B, 5, none⟩ f).setCell ⟨B, 6, none⟩ g).setCell ⟨B, 7, none⟩ h).cell? ⟨gg, j, none⟩ = some v := by
  rw [World.cell?_setCell_far _ _ _ _ hne, World.cell?_setCell_far _ _ _ _ hne, World.cell?_setCell_far _ _ _ _ hne, World.cell?_setCell_far _ _ _ _ hne, World.cell?_setCell_far _ _ _ _ hne, World.cell?_setCell_far _ _ _ _ hne, World.cell?_setCell_far _ _ _ _ hne, World.cell?_setCell_far _ _ _ _ hne]
  exact hv
def FormAny (T : List TokI) (N : List Nd) (l : List UInt8) (w : World) (e : Ending) (w' : World) : Prop :=
  w.grownBy w' none ∧ ((TGood T N l true ∧ ∃ q, e = .returned (.tuple #[.agg q.toArray, .int .i64 0]) ∧ EAt (fun k => w.heap.size ≤ k) w' (formE l 200) q) ∨ (¬ TGood T N l true ∧ e = .returned (.tuple #[.agg #[.int .i64 0, .string ⟨#[]⟩, .string ⟨#[]⟩, .bool false, .slice none 0 0, .bool false, .slice none 0 0, .int .i64 0], .int .i64 10])))

set_option maxRecDepth 100000 in
set_option maxHeartbeats 16000000 in
theorem FormulaOf_any (T : List TokI) (N : List Nd) (K : Kf) (s : ByteArray) (hs : s.size ≤ 25000) (hw : wholeI T = s.data.toList) (hT : T.length ≤ 100000) (hN : N.length ≤ 150000) (hk : ∀ (i : Nat) (x : Nd), N[i]? = some x → x.kids.length ≤ 150000) (pt pn : Option Addr) (ct cn : Nat) (w : World) (hla : LaidE w) (hls : LaidS w) (ht : ToksAt w pt T) (hn : NodesAt w pn N K) :
    Calls Tryz.prog 24 #[.agg #[.slice pt T.length ct, .slice pn N.length cn]] w (FormAny T N s.data.toList w) := by
  have hsl : s.data.toList.length = s.size := list_len s
  have HNR := Lib.hid (fun W h1 h2 h3 => newReaderAF_c T N K s hs hw hT hN hk pt pn ct cn W h1 h2 h3)
  obtain ⟨l, hl⟩ : ∃ l, s.data.toList = l := ⟨_, rfl⟩
  rw [hl] at HNR hsl ⊢
  have HSL : Hid (l.length ≤ 25000) := Lib.hid (by omega)
  have HT := Lib.hid ht; have HN := Lib.hid hn; have HLA := Lib.hid hla; have HLS := Lib.hid hls
  clear ht hn hla hls hN hs hsl hl hw hk hT
  obtain ⟨m, hm⟩ : ∃ m, T.length = m := ⟨_, rfl⟩
  obtain ⟨M, hM⟩ : ∃ M, N.length = M := ⟨_, rfl⟩
  rw [hm, hM] at HNR ⊢
  clear hm hM
  go_enter Tryz.func24, Tryz.ntmps24
  go_wp2_with fail
  obtain ⟨W, b0, b1, hW, e0, e1, hB0, hB1, hgW, h01⟩ := two w (.cells #[.slice pt m ct, .slice pn M cn] 64) (.cells #[.int .i64 0, .string ⟨#[]⟩, .string ⟨#[]⟩, .bool false, .slice none 0 0, .bool false, .slice none 0 0, .int .i64 0] 31)
  have HB1 := Lib.hid hB1; have HGW := Lib.hid hgW; have HE0 := Lib.hid e0
  clear hB0 hB1 hgW
  try rw [← hW]
  try rw [e1]
  try rw [e0]
  clear e0 e1 hW
  refine (HNR.out _ (HLA.out.kept HGW.out) (HT.out.kept HGW.out) (HN.out.kept HGW.out)).mono ?_
  rintro e w1 ⟨hg1, he⟩
  have HG1 := Lib.hid (gb_trans HGW.out hg1)
  have HB11 := Lib.hid (bx hg1 HB1.out)
  clear hg1 HNR HT HN
  rcases he with ⟨hgd, pt', ct', pn', cn', K', rfl, hta, hna, hN2, hfk⟩ | ⟨hbd, rfl⟩
  · have HGD := Lib.hid hgd
    have hR := read_f (l := l) (by have := HSL.out; omega) hgd.1
    have hlen := len_all hR.lex
    obtain ⟨t, ks, k0, hx, hk0, hge, hax, hsz⟩ := form_root hR
    have hl25 := HSL.out
    have HFK := Lib.hid hfk
    have HB1W : Hid (b1 < W.heap.size) := Lib.hid (hlt HB1.out)
    clear hfk
    have HTA := Lib.hid hta; have HNA := Lib.hid hna
    have HPO : Hid (∀ q w', w.grownBy w' none → EAt (fun k => w.heap.size ≤ k) w' (axT (allE l).1 t) q → FormAny T N l w (.returned (.tuple #[.agg q.toArray, .int .i64 0])) w') := Lib.hid (fun q w' h1 h2 => ⟨h1, .inl ⟨HGD.out, q, rfl, by rw [← hax]; exact h2⟩⟩)
    obtain ⟨T', hT'⟩ : ∃ T', (allE l).1 = T' := ⟨_, rfl⟩
    obtain ⟨N', hNN⟩ : ∃ N', nodesQ l 200 true = N' := ⟨_, rfl⟩
    rw [hT'] at HTA hlen hge hN2 HPO ⊢
    rw [hNN] at HNA hx hge hN2 hsz HFK ⊢
    have HEX := Lib.hid (fun (pt pn : Option Addr) (ct cn : Nat) (K : Kf) W h1 h2 h3 => expr_c (T := T') (N := N') (K := K) (by omega) (by omega) pt pn ct cn N'.length t (k0 : Int) W (by omega) hsz hge h1 h2 h3)
    have HKD := Lib.hid (fun (pt pn : Option Addr) (mt ct cn : Nat) (K : Kf) W h => kids_r (K := K) (by omega) hx pt pn mt ct cn W h)
    have HRT := Lib.hid (fun (pt pn : Option Addr) (mt ct cn : Nat) W => Root_c pt pn mt ct N'.length cn (by have := (List.getElem?_eq_some_iff.1 hx).1; omega) (by omega) W)
    have HKV : Hid (∀ (pn : Option Addr) (K : Kf) W, NodesAt W pn N' K → VAt W (K (N'.length - 1)).1 (intsV ks)) := Lib.hid (fun pn K W h => h.2 _ _ hx)
    have HK0 := Lib.hid hk0; have HX := Lib.hid hx
    have HFR : Hid (∀ (a : Addr), (K' (N'.length - 1)).1 = some a → W.heap.size ≤ a.block) := Lib.hid (fun a ha => HFK.out _ _ hx (fun e => by have e : ks = [] := e; rw [e] at hk0; simp at hk0) a ha)
    have hkl : ks.length ≤ 150000 := by
      have := kids_few (l := l) (D := 200) (f := true) (by rw [hNN]; omega) _ _ (by rw [hNN]; exact hx)
      exact this
    have hkp : 0 < ks.length := (List.getElem?_eq_some_iff.1 hk0).1
    clear hta hna hR hlen hN2 hx hge hsz hk0 hT' hNN hax hgd hl25
    obtain ⟨m', hm⟩ : ∃ m, T'.length = m := ⟨_, rfl⟩
    obtain ⟨M', hM⟩ : ∃ M, N'.length = M := ⟨_, rfl⟩
    obtain ⟨L, hL⟩ : ∃ L, ks.length = L := ⟨_, rfl⟩
    rw [hm, hM] at HEX ⊢
    rw [hM] at HKD HRT
    have HKD : Hid (∀ (pt pn : Option Addr) (mt ct cn : Nat) (K : Kf) (W : World), NodesAt W pn N' K → Calls Tryz.prog 48 #[.agg #[.slice pt mt ct, .slice pn M' cn], .int .i64 ((M' - 1 : Nat) : Int)] W (ValPost (.slice (K (M' - 1)).1 L (K (M' - 1)).2) W)) := Lib.hid (by rw [← hL]; exact HKD.out)
    rw [hM] at HKV HFR
    rw [hL] at hkl hkp
    obtain ⟨R, hRR⟩ : ∃ R, M' - 1 = R := ⟨_, rfl⟩
    rw [hRR] at HKD HKV HRT HFR
    clear hm hM hL hRR HX
    have z0 : decide (0 < L) = true := decide_eq_true hkp
    have z1 : (0 : Int) < (L : Int) := by omega
    have z2 : decide ((0 : Int) < (L : Int)) = true := decide_eq_true z1
    go_wp2_with fail
    obtain ⟨W3, b2, hW3, e2, hB2, hgW3⟩ := three0 w1 (.cells #[.slice pt' m' ct', .slice pn' M' cn'] 103)
    have HB2 := Lib.hid hB2
    have hb12 : b1 < b2 := by have := hlt HB11.out; omega
    have HG3 := Lib.hid (gb_trans HG1.out hgW3)
    have HB13 := Lib.hid (bx hgW3 HB11.out)
    have HT3 := Lib.hid (HTA.out.kept hgW3); have HN3 := Lib.hid (HNA.out.kept hgW3); have HL3 := Lib.hid (HLS.out.kept HG3.out)
    have HKV3 := Lib.hid (HKV.out _ _ _ HN3.out)
    obtain ⟨g, off, hpk, hgl, ck⟩ := kid_at HKV3.out HK0.out
    have hneg : b1 ≠ g := by have h1 : W.heap.size ≤ g := HFR.out _ hpk; have h2 := HB1W.out; omega
    have HKD : Hid (∀ (W : World), NodesAt W pn' N' K' → Calls Tryz.prog 48 #[.agg #[.slice pt' m' ct', .slice pn' M' cn'], .int .i64 (R : Int)] W (ValPost (.slice (some ⟨g, off, none⟩) L (K' R).2) W)) := Lib.hid (by rw [← hpk]; exact fun W h => HKD.out pt' pn' m' ct' cn' K' W h)
    have HCK := Lib.hid ck
    have HGL := Lib.hid hgl
    rw [Nat.add_zero] at ck
    clear hB2 hgW3 hpk
    try rw [← hW3]
    try rw [e2]
    clear e2 hW3
    obtain ⟨a0, a1, a2⟩ := cells2 HB2.out
    have hb2s : b2 < W3.heap.size := hlt HB2.out
    have hb1s : b1 < W3.heap.size := hlt HB13.out
    have HRT := Lib.hid (fun W => HRT.out pt' pn' m' ct' cn' W)
    have HEX := Lib.hid (fun W h1 h2 h3 => HEX.out pt' pn' ct' cn' K' W h1 h2 h3)
    have HB23 := Lib.hid HB2.out
    clear HB2 HKV3 HKV
    go_wp2_with fail
    have hne12 : b1 ≠ b2 := by omega
    have ckw : W3.cell? ⟨g, off, none⟩ = some (.int .i64 (k0 : Int)) := ck
    go_region_held3 (fun w' => w'.cell? ⟨b2, 0, none⟩ = some (.slice pt' m' ct') ∧ w'.cell? ⟨b2, 1, none⟩ = some (.slice pn' M' cn') ∧ w'.cell? ⟨g, off, none⟩ = some (.int .i64 (k0 : Int)))
      (first | with_reducible exact ⟨a0, a1, ckw⟩ | with_reducible exact ⟨keep8z a0 hne12, keep8z a1 hne12, keep8z ckw hneg⟩ | go_keep)
      (first
        | (go_at_call 49; refine (HRT.out _).mono ?_; rintro e w4 ⟨rfl, hg4⟩; have HG4 := Lib.hid (gb_trans (show W3.grownBy _ none from (by repeat (first | with_reducible exact gb_refl _ _ | with_reducible refine gb_drew ?_))) hg4); obtain ⟨a0, a1, a2⟩ := cells2 (bx HG4.out HB23.out); have ckw := HG4.out.cell HCK.out (by simp); rw [Nat.add_zero] at ckw; have hgl4 := Nat.lt_of_lt_of_le HGL.out HG4.out.size; have hb2s := hlt (bx HG4.out HB23.out); clear hg4)
        | (go_at_call 48; refine (HKD.out _ (HN3.out.kept (gb_trans HG4.out (by repeat (first | with_reducible exact gb_refl _ _ | with_reducible refine gb_drew ?_))))).mono ?_; rintro e w5 ⟨rfl, hg5⟩; have HG5 := Lib.hid (gb_trans (gb_trans HG4.out (show w4.grownBy _ none from (by repeat (first | with_reducible exact gb_refl _ _ | with_reducible refine gb_drew ?_)))) hg5); obtain ⟨a0, a1, a2⟩ := cells2 (bx HG5.out HB23.out); have ckw := HG5.out.cell HCK.out (by simp); rw [Nat.add_zero] at ckw; have hgl5 := Nat.lt_of_lt_of_le HGL.out HG5.out.size; have hb2s := hlt (bx HG5.out HB23.out); clear hg5)
        | (go_at_call 47; refine (HEX.out _ (HT3.out.kept (gb_trans HG5.out (by repeat (first | with_reducible exact gb_refl _ _ | with_reducible refine gb_drew ?_)))) (HN3.out.kept (gb_trans HG5.out (by repeat (first | with_reducible exact gb_refl _ _ | with_reducible refine gb_drew ?_)))) (HL3.out.kept (gb_trans HG5.out (by repeat (first | with_reducible exact gb_refl _ _ | with_reducible refine gb_drew ?_))))).mono ?_; rintro e w6 ⟨hg6, q, rfl, hq⟩; obtain ⟨xo, xp, xa, xb, xs, xy, xq, xr, xn, xc, xm, xd, rfl⟩ := hq.form; have HQ := Lib.hid hq; have HG6 := Lib.hid (gb_trans (gb_trans HG5.out (show w5.grownBy _ none from (by repeat (first | with_reducible exact gb_refl _ _ | with_reducible refine gb_drew ?_)))) hg6); have hb16 := bx HG6.out HB13.out; have HB16 := Lib.hid hb16; obtain ⟨x0, x1, x2, x3, x4, x5, x6, x7, x8⟩ := cells8x hb16; have hb1s6 := hlt hb16; obtain ⟨a0, a1, a2⟩ := cells2 (bx HG6.out HB23.out); have ckw := HG6.out.cell HCK.out (by simp); rw [Nat.add_zero] at ckw; have hb2s := hlt (bx HG6.out HB23.out); have hgl6 := Nat.lt_of_lt_of_le HGL.out HG6.out.size; clear hg6 hq hb16))
    all_goals
      go_wp2_with fail
      obtain ⟨hp, hf⟩ := put8c HB16.out (.int .i64 xo) (.string xa) (.string xb) (.bool xs) (.slice xq xn xc) (.bool xy) (.slice xr xm xd) (.int .i64 xp)
      obtain ⟨f0, f1, f2, f3, f4, f5, f6, f7, -⟩ := cells8x hp
      have HFX := Lib.hid (Fr2.after (gb_trans HG3.out HG6.out) hf (fun i hi => by have e : i = b1 := hi; have := HE0.out; omega))
      have HPX : Hid (FormAny T N l w (.returned (.tuple #[.agg #[.int .i64 xo, .string xa, .string xb, .bool xs, .slice xq xn xc, .bool xy, .slice xr xm xd, .int .i64 xp], .int .i64 0])) _) := Lib.hid (HPO.out _ _ HFX.out (EAt.mono (fun k hk => by have h1 := hk.1; have h2 := (gb_trans HG3.out HG5.out).size; exact Nat.le_trans h2 h1) (EAt.same hf (fun k hk e => by have e : k = b1 := e; have h1 : w5.heap.size ≤ k := hk.1; have h2 := HG5.out.size; omega) HQ.out.bound)))
      first
        | (refine bodyPost_ret (v := .tuple #[.agg #[.int .i64 xo, .string xa, .string xb, .bool xs, .slice xq xn xc, .bool xy, .slice xr xm xd, .int .i64 xp], .int .i64 0]) (by simp [results, Tryz.results24, go_sem, f0, f1, f2, f3, f4, f5, f6, f7]) rfl HPX.out)
  · have HBD := Lib.hid hbd
    obtain ⟨c0, c1, c2, c3, c4, c5, c6, c7, c8⟩ := cells8x HB11.out
    have hb1 : b1 < w1.heap.size := hlt HB11.out
    clear hbd
    go_wp2_with fail
    obtain ⟨hp, hf⟩ := put8c HB11.out (.int .i64 0) (.string ⟨#[]⟩) (.string ⟨#[]⟩) (.bool false) (.slice none 0 0) (.bool false) (.slice none 0 0) (.int .i64 0)
    have hp2 := bx (gb_alloc (gb_refl _ none) (.cells #[.slice none 0 0, .slice none 0 0] 103)) hp
    obtain ⟨k0, k1, k2, k3, k4, k5, k6, k7, -⟩ := cells8x hp2
    have hfg := Fr2.after HG1.out hf (fun j hj => by have e : j = b1 := hj; have := HE0.out; omega)
    refine bodyPost_ret (v := .tuple #[.agg #[.int .i64 0, .string ⟨#[]⟩, .string ⟨#[]⟩, .bool false, .slice none 0 0, .bool false, .slice none 0 0, .int .i64 0], .int .i64 10]) (by simp [results, Tryz.results24, go_sem, k0, k1, k2, k3, k4, k5, k6, k7]) rfl (show FormAny T N l w _ _ from ⟨gb_alloc hfg _, .inr ⟨HBD.out, rfl⟩⟩)
end Go.Proofs.YtijpelkjeejjfaaGreatDoor
