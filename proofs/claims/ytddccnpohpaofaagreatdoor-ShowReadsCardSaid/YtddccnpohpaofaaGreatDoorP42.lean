/- Lemmas. -/
import Derived.Test.YtddccnpohpaofaaGreatDoorP16
set_option linter.unusedVariables false
set_option linter.unusedSimpArgs false
namespace Go.Proofs.YtddccnpohpaofaaGreatDoor
open Go.RowKit

theorem cells8u {w : World} {r : Nat} {a b c d e f g h : Value} {T : TypeId} (h0 : w.heap[r]? = some (.cells #[a, b, c, d, e, f, g, h] T (0, 0))) : w.cell? ⟨r, 0, none⟩ = some a ∧ w.cell? ⟨r, 1, none⟩ = some b ∧ w.cell? ⟨r, 2, none⟩ = some c ∧ w.cell? ⟨r, 3, none⟩ = some d ∧ w.cell? ⟨r, 4, none⟩ = some e ∧ w.cell? ⟨r, 5, none⟩ = some f ∧ w.cell? ⟨r, 6, none⟩ = some g ∧ w.cell? ⟨r, 7, none⟩ = some h :=
  ⟨by rw [cell_of_row w r 0 _ T (0, 0) h0]; rfl, by rw [cell_of_row w r 1 _ T (0, 0) h0]; rfl, by rw [cell_of_row w r 2 _ T (0, 0) h0]; rfl, by rw [cell_of_row w r 3 _ T (0, 0) h0]; rfl, by rw [cell_of_row w r 4 _ T (0, 0) h0]; rfl, by rw [cell_of_row w r 5 _ T (0, 0) h0]; rfl, by rw [cell_of_row w r 6 _ T (0, 0) h0]; rfl, by rw [cell_of_row w r 7 _ T (0, 0) h0]; rfl⟩
theorem keep7u {w2 : World} {B gg j : Nat} {v a b c d e f g : Value} (h : w2.cell? ⟨gg, j, none⟩ = some v) (hne : gg ≠ B) : (((((((w2.setCell ⟨B, 0, none⟩ a).setCell ⟨B, 1, none⟩ b).setCell ⟨B, 2, none⟩ c).setCell ⟨B, 3, none⟩ d).setCell ⟨B, 4, none⟩ e).setCell ⟨B, 5, none⟩ f).setCell ⟨B, 6, none⟩ g).cell? ⟨gg, j, none⟩ = some v := by
  rw [World.cell?_setCell_far _ _ _ _ (fun e => hne e.symm), World.cell?_setCell_far _ _ _ _ (fun e => hne e.symm), World.cell?_setCell_far _ _ _ _ (fun e => hne e.symm), World.cell?_setCell_far _ _ _ _ (fun e => hne e.symm), World.cell?_setCell_far _ _ _ _ (fun e => hne e.symm), World.cell?_setCell_far _ _ _ _ (fun e => hne e.symm), World.cell?_setCell_far _ _ _ _ (fun e => hne e.symm)]
  exact h
theorem sizSs_take {l : List Sx} {j : Nat} {x : Sx} (h : l[j]? = some x) : l.take (j + 1) = l.take j ++ [x] := by rw [List.take_add_one, h]; rfl
set_option maxRecDepth 100000 in
set_option maxHeartbeats 16000000 in
theorem mexpr_c : ∀ (n : Nat) (x : Sx), sizS x ≤ n → ∀ (F : Nat → Prop) (q : List Value) (w : World), SAt F w x q → okS x → n ≤ 1000000 →
    Calls Tryz.prog 14 #[.agg q.toArray] w (ExPostS x w) := by
  intro n
  induction n with
  | zero => intro x hn; have := sizS_pos x; omega
  | succ n ih =>
    intro x hn F q w hx hok hnb
    cases x with
    | mk op nm md nu ys ks ps =>
      simp only [SAt] at hx
      obtain ⟨s, pw, nw, cw, pk, ck, rows8, rfl, hi, hiF, hG8, hls, hkF⟩ := hx
      simp only [okS] at hok
      obtain ⟨⟨-, -, hZ⟩, hoks⟩ := hok
      simp only [sizS] at hn
      have HIH := Lib.hid (fun x h F q w h1 h2 => ih x h F q w h1 h2 (by omega))
      have HNUM := Lib.hid (fun W (h : w.grownBy W none) => Zd.String_c _ nu W (hi.kept h) hZ)
      obtain ⟨u, hu⟩ : ∃ u : ByteArray, (⟨(Zd.txtL nu).toArray⟩ : ByteArray) = u := ⟨_, rfl⟩
      have HU := Lib.hid hu
      have HV : Hid (Zd.txt nu = .string u) := Lib.hid (by unfold Zd.txt; rw [hu])
      obtain ⟨kl, hkl⟩ : ∃ kl, ks.length = kl := ⟨_, rfl⟩
      have hklb : kl ≤ 1000000 := by have := len_sizSs ks; omega
      have HKL := Lib.hid hkl; have HG8 := Lib.hid hG8; have HLS8 := Lib.hid hls; have HN := Lib.hid hn; have HOKS := Lib.hid hoks; have HKB := Lib.hid hklb
      unfold strV
      generalize hsn : (⟨nm.toArray⟩ : ByteArray) = sn
      generalize hsm : (⟨md.toArray⟩ : ByteArray) = sm
      have HSN := Lib.hid hsn; have HSM := Lib.hid hsm
      rw [hkl]
      show Calls Tryz.prog 14 #[.agg #[.int .i64 op, .string sn, .string sm, .bool s, .slice pw nw cw, .bool ys, .slice pk kl ck, .int .i64 ps]] w _
      clear hi hiF hG8 hls hkF hZ hoks hn hkl hu hsn hsm ih hnb hklb
      have hbA := heap_alloc_new w (.cells #[.int .i64 op, .string sn, .string sm, .bool s, .slice pw nw cw, .bool ys, .slice pk kl ck, .int .i64 ps] 30)
      have hgA := World.grownBy_alloc w (.cells #[.int .i64 op, .string sn, .string sm, .bool s, .slice pw nw cw, .bool ys, .slice pk kl ck, .int .i64 ps] 30) none
      have hbB := heap_alloc_new (w.alloc (.cells #[.int .i64 op, .string sn, .string sm, .bool s, .slice pw nw cw, .bool ys, .slice pk kl ck, .int .i64 ps] 30)) (.cells #[.int .i64 0, .string ⟨#[]⟩, .string ⟨#[]⟩, .string ⟨#[]⟩, .bool false, .slice none 0 0, .int .i64 0] 33)
      have hgB := World.grownBy_alloc (w.alloc (.cells #[.int .i64 op, .string sn, .string sm, .bool s, .slice pw nw cw, .bool ys, .slice pk kl ck, .int .i64 ps] 30)) (.cells #[.int .i64 0, .string ⟨#[]⟩, .string ⟨#[]⟩, .string ⟨#[]⟩, .bool false, .slice none 0 0, .int .i64 0] 33) none
      have hsA : (w.alloc (.cells #[.int .i64 op, .string sn, .string sm, .bool s, .slice pw nw cw, .bool ys, .slice pk kl ck, .int .i64 ps] 30)).heap.size = w.heap.size + 1 := by simp
      rw [hsA] at hbB
      have hbA := bx hgB hbA
      have hg := gb_trans hgA hgB
      have hsB : ((w.alloc (.cells #[.int .i64 op, .string sn, .string sm, .bool s, .slice pw nw cw, .bool ys, .slice pk kl ck, .int .i64 ps] 30)).alloc (.cells #[.int .i64 0, .string ⟨#[]⟩, .string ⟨#[]⟩, .string ⟨#[]⟩, .bool false, .slice none 0 0, .int .i64 0] 33)).heap.size = w.heap.size + 2 := by simp
      go_enter Tryz.func14, Tryz.ntmps14
      go_upto_region 1 with fail
      generalize ((w.alloc (.cells #[.int .i64 op, .string sn, .string sm, .bool s, .slice pw nw cw, .bool ys, .slice pk kl ck, .int .i64 ps] 30)).alloc (.cells #[.int .i64 0, .string ⟨#[]⟩, .string ⟨#[]⟩, .string ⟨#[]⟩, .bool false, .slice none 0 0, .int .i64 0] 33)) = W at *
      obtain ⟨b0, hb0⟩ : ∃ b0, w.heap.size = b0 := ⟨_, rfl⟩
      rw [hb0] at hbA hbB hsB ⊢
      have HB0 := Lib.hid hb0; have HBA := Lib.hid hbA; have HBB := Lib.hid hbB; have HGW := Lib.hid hg; have HSB := Lib.hid hsB
      clear hgA hgB hsA hbA hbB hg hsB hb0
      obtain ⟨c0, c1, c2, c3, c4, c5, c6, c7⟩ := cells8u HBA.out
      go_cut [3] (fun t3 wx => Hid (EBoxU W (.int .i64 op) (.string sn) (.string sm) (.string u) (.bool ys) (.slice none 0 0) (.int .i64 ps) t3 wx))
      case first =>
        have hb0w : b0 < W.heap.size := hlt HBA.out
        go_region_held3 (fun w' => w'.cell? ⟨b0, 0, none⟩ = some (.int .i64 op) ∧ w'.cell? ⟨b0, 1, none⟩ = some (.string sn) ∧ w'.cell? ⟨b0, 2, none⟩ = some (.string sm) ∧ w'.cell? ⟨b0, 3, none⟩ = some (.bool s) ∧ w'.cell? ⟨b0, 4, none⟩ = some (.slice pw nw cw) ∧ w'.cell? ⟨b0, 5, none⟩ = some (.bool ys) ∧ w'.cell? ⟨b0, 7, none⟩ = some (.int .i64 ps))
          (first | with_reducible exact ⟨c0, c1, c2, c3, c4, c5, c7⟩ | with_reducible exact ⟨keep7u c0 (by omega), keep7u c1 (by omega), keep7u c2 (by omega), keep7u c3 (by omega), keep7u c4 (by omega), keep7u c5 (by omega), keep7u c7 (by omega)⟩ | go_keep)
          (first | (go_at_call 33; refine (HNUM.out _ (gb_trans HGW.out (by repeat (first | with_reducible exact gb_refl _ _ | with_reducible refine gb_drew ?_ | with_reducible refine gb_alloc ?_ _)))).mono ?_; rintro e w2 ⟨rfl, hg2⟩; rw [HV.out]; (try (have he2 := bx hg2 (heap_alloc_new W (.cells #[.int .i64 0, .string ⟨#[]⟩, .string ⟨#[]⟩, .string ⟨#[]⟩, .bool false, .slice none 0 0, .int .i64 0] 33)); have hc7 := cells7u he2; obtain ⟨q0, q1, q2, q3, q4, q5, q6, q7⟩ := hc7)); have HG2 := Lib.hid (gb_trans (show W.grownBy _ none from (by repeat (first | with_reducible exact gb_refl _ _ | with_reducible refine gb_drew ?_ | with_reducible refine gb_alloc ?_ _))) hg2); obtain ⟨c0, c1, c2, c3, c4, c5, c6, c7⟩ := cells8u (bx HG2.out HBA.out); clear hg2))
        all_goals
          go_wp2_with fail
          go_meet
          first
            | (with_reducible exact Lib.hid (ebox_new HG2.out))
            | (with_reducible exact Lib.hid (ebox_old HG2.out (Nat.le_refl _) he2))
      case rest =>
        obtain ⟨b2, rfl, hb2, h2W, hgc⟩ := hcut.out
        have HGC := Lib.hid (gb_trans HGW.out hgc)
        have HBA := Lib.hid (bx hgc HBA.out); have HBB := Lib.hid (bx hgc HBB.out); have HB2 := Lib.hid hb2
        obtain ⟨c0, c1, c2, c3, c4, c5, c6, c7⟩ := cells8u HBA.out
        have HSZ : Hid (b0 + 1 < b2 ∧ b2 < wc.heap.size) := Lib.hid (by have := HSB.out; have := hlt hb2; omega)
        clear hb2 h2W hgc hcut HNUM
        obtain ⟨Bz, hBz⟩ : ∃ Bz, wc.heap.size = Bz := ⟨_, rfl⟩
        have HBZ := Lib.hid hBz
        rw [hBz] at HSZ
        clear hBz
        have hb2z : b2 < Bz := HSZ.out.2
        go_wp2_with fail
        go_loopw [23] (fun iv wr => ∃ (j : Nat) (rows : List (List Value)) (pv : Option Addr) (nv cv : Nat), j ≤ kl ∧ iv = .int .i64 (j : Int) ∧ Hid (wr.heap[b2]? = some (.cells #[.int .i64 op, .string sn, .string sm, .string u, .bool ys, .slice pv nv cv, .int .i64 ps] 33 (0, 0))) ∧ Hid (OwnG 7 33 wr Bz (.slice pv nv cv) rows) ∧ Hid (LsU (fun k => Bz ≤ k ∧ k < wr.heap.size ∧ k ≠ b2 ∧ (Value.slice pv nv cv).ownBlock ≠ some k) wr (ks.take j) rows) ∧ Hid (Fr2 (fun k => k = b2) wc wr)) (fun iv _ => kl - (intOf iv).toNat)
        case atStart => exact ⟨0, [], none, 0, 0, Nat.zero_le _, rfl, HB2, Lib.hid (OwnG.nil _ _ _ _), Lib.hid (by simp [LsU]), Lib.hid (Fr2.refl _ _)⟩
        case round =>
          obtain ⟨j, rows, pv, nv, cv, hj, rfl, HB2r, HO, HLS, HF⟩ := hrel
          have HGr : Hid (w.grownBy wr none) := Lib.hid (fr_after HGC.out HF.out (fun i hi => by have := HSZ.out; have := HB0.out; omega))
          have HSr : Hid (Bz ≤ wr.heap.size) := Lib.hid (by rw [← HBZ.out]; exact HF.out.size)
          have hb2r : b2 < wr.heap.size := hlt HB2r.out
          by_cases hlt' : j < kl
          · obtain ⟨kx, hkx⟩ : ∃ kx, ks[j]? = some kx := ⟨ks[j]'(by rw [HKL.out]; exact hlt'), List.getElem?_eq_getElem _⟩
            obtain ⟨qx, hqx, hsx⟩ := HLS8.out.get hkx
            have HOX := Lib.hid (okSs_get HOKS.out hkx)
            have HSX : Hid (sizS kx ≤ n) := Lib.hid (by have := sizSs_mem hkx; have := HN.out; omega)
            have HTE := Lib.hid (sizSs_take hkx)
            have HEX := Lib.hid (hsx.kept HGr.out)
            obtain ⟨g8, o8, rfl, hg8, hc8⟩ := HG8.out.resolve_left (fun e => by rw [e] at hqx; simp at hqx)
            have hc8 := fun i v h => HGr.out.cell (hc8 j _ hqx i v h) (by simp)
            have hg8 := Nat.lt_of_lt_of_le hg8 HGr.out.size
            have HIX := Lib.hid (fun W q h => HIH.out kx HSX.out F q W h HOX.out)
            have HRL : Hid (rows.length ≤ 1000000) := Lib.hid (by have h1 := HLS.out.len; have h3 := List.length_take (i := j) (l := ks); have h4 := HKB.out; omega)
            obtain ⟨pv', cv', hve, -⟩ := HO.out.is
            have hve2 : nv = rows.length := by injection hve
            have HNV := Lib.hid hve2
            have y1' : (0 : Int) ≤ (j : Int) := by omega
            have y2' : (j : Int) < (kl : Int) := by omega
            have y3' : decide (j < kl) = true := decide_eq_true hlt'
            have y4' : decide ((j : Int) < (kl : Int)) = true := decide_eq_true y2'
            have hwj : IntKind.i64.wrap ((j : Int) + 1) = (j : Int) + 1 := IntWalk.i64_in _ (by have := HKB.out; omega)
            cases kx with
            | mk op1 nm1 md1 nu1 ys1 ks1 ps1 =>
              simp only [SAt] at hsx
              obtain ⟨s1, pw1, nw1, cw1, pk1, ck1, rows1, rfl, -⟩ := hsx
              unfold strV at *
              generalize (⟨nm1.toArray⟩ : ByteArray) = y1 at *
              generalize (⟨md1.toArray⟩ : ByteArray) = z1 at *
              generalize hkl1 : ks1.length = kl1 at *
              have k0 := hc8 0 _ rfl
              have k1 := hc8 1 _ rfl
              have k2 := hc8 2 _ rfl
              have k3 := hc8 3 _ rfl
              have k4 := hc8 4 _ rfl
              have k5 := hc8 5 _ rfl
              have k6 := hc8 6 _ rfl
              have k7 := hc8 7 _ rfl
              rw [Nat.add_zero] at k0
              have hbq := heap_alloc_new wr (.cells #[.int .i64 op1, .string y1, .string z1, .bool s1, .slice pw1 nw1 cw1, .bool ys1, .slice pk1 kl1 ck1, .int .i64 ps1] 30)
              have hgq := World.grownBy_alloc wr (.cells #[.int .i64 op1, .string y1, .string z1, .bool s1, .slice pw1 nw1 cw1, .bool ys1, .slice pk1 kl1 ck1, .int .i64 ps1] 30) none
              clear hkx hqx hc8 hve hve2 hkl1
              go_upto_region 5 with fail
              have HB2r := Lib.hid (bx hgq HB2r.out)
              have HO := Lib.hid (HO.out.kept hgq)
              have HLS := Lib.hid (LsU.mono (F' := fun k => Bz ≤ k ∧ k < (wr.alloc (.cells #[.int .i64 op1, .string y1, .string z1, .bool s1, .slice pw1 nw1 cw1, .bool ys1, .slice pk1 kl1 ck1, .int .i64 ps1] 30)).heap.size ∧ k ≠ b2 ∧ (Value.slice pv nv cv).ownBlock ≠ some k) (fun k hk => ⟨hk.1, Nat.lt_of_lt_of_le hk.2.1 hgq.size, hk.2.2.1, hk.2.2.2⟩) (HLS.out.kept hgq))
              have HF := Lib.hid (HF.out.trans (Fr2.none hgq))
              have HSr : Hid (Bz ≤ (wr.alloc (.cells #[.int .i64 op1, .string y1, .string z1, .bool s1, .slice pw1 nw1 cw1, .bool ys1, .slice pk1 kl1 ck1, .int .i64 ps1] 30)).heap.size) := Lib.hid (Nat.le_trans HSr.out hgq.size)
              have HEX := Lib.hid (HEX.out.kept hgq)
              have hb2r : b2 < (wr.alloc (.cells #[.int .i64 op1, .string y1, .string z1, .bool s1, .slice pw1 nw1 cw1, .bool ys1, .slice pk1 kl1 ck1, .int .i64 ps1] 30)).heap.size := Nat.lt_of_lt_of_le hb2r hgq.size
              clear HGr k0 k1 k2 k3 k4 k5 k6 k7 hg8 y1' y2' y3' y4'
              generalize (wr.alloc (.cells #[.int .i64 op1, .string y1, .string z1, .bool s1, .slice pw1 nw1 cw1, .bool ys1, .slice pk1 kl1 ck1, .int .i64 ps1] 30)) = W1 at *
              obtain ⟨bq, hbqe⟩ : ∃ bq, wr.heap.size = bq := ⟨_, rfl⟩
              rw [hbqe] at hbq ⊢
              obtain ⟨e0, e1, e2, e3, e4, e5, e6, e7⟩ := cells8u hbq
              obtain ⟨f0, f1, f2, f3, f4, f5, f6, f7⟩ := cells7u HB2r.out
              have hbqw : bq < W1.heap.size := hlt hbq
              clear hbq hgq hbqe
              go_region_law (first
                | (refine step_appGl (s := 7) (t := 31) (T := 33) (by decide) Tryz.underlying31 infoRU rfl (by omega) rfl _ _ rfl Bz rows [q0, q1, q2, q3, q4, q5, q6] rfl HQ1.out (.slice pv nv cv) rfl (OwnG.kept HO7.out (by repeat (first | with_reducible exact gb_refl _ _ | with_reducible refine gb_drew ?_ | with_reducible refine gb_drewN ?_ _ | with_reducible refine gb_alloc ?_ _))) w7.heap.size _ rfl (by exact HNEW.out) rfl HRL.out (by have := HS57.out; simp; omega) (w7.heap.size + 1) (by simp) ?_; intro g9 cap9 w9 hO9 hg9 hl9; have hb9 := (hg9.block b2 (by simp; omega) (fun e => by have := (OwnG.at HO7.out b2 e.symm).1; omega)).trans (show _ = _ from bx (show w7.grownBy _ none from (by repeat (first | with_reducible exact gb_refl _ _ | with_reducible refine gb_drew ?_ | with_reducible refine gb_drewN ?_ _ | with_reducible refine gb_alloc ?_ _))) HB27.out); obtain ⟨d0, d1, d2, d3, d4, d5, d6, d7⟩ := cells7u hb9; have HB9 := Lib.hid hb9; have HO9 := Lib.hid hO9; have HG9 := Lib.hid hg9; have HL9 := Lib.hid hl9; clear hb9 hO9 hg9 hl9)
                | (go_simp; go_at_call 14; refine (HIX.out _ _ (HEX.out.kept (by repeat (first | with_reducible exact gb_refl _ _ | with_reducible refine gb_drew ?_ | with_reducible refine gb_drewN ?_ _ | with_reducible refine gb_alloc ?_ _)))).mono ?_; rintro e w7 ⟨hg7, q, rfl, hq⟩; obtain ⟨q0, q1, q2, q3, q4, q5, q6, rfl⟩ := hq.seven; have HQ1 := Lib.hid hq.one.2; have HQ : Hid (RSt (fun k => W1.heap.size ≤ k) w7 _ [q0, q1, q2, q3, q4, q5, q6]) := Lib.hid (RSt.mono (fun k (hk : _ ≤ k) => Nat.le_trans (show W1.grownBy _ none from (by repeat (first | with_reducible exact gb_refl _ _ | with_reducible refine gb_drew ?_ | with_reducible refine gb_drewN ?_ _ | with_reducible refine gb_alloc ?_ _))).size hk) hq); have HG7 := Lib.hid (gb_trans (show W1.grownBy _ none from (by repeat (first | with_reducible exact gb_refl _ _ | with_reducible refine gb_drew ?_ | with_reducible refine gb_drewN ?_ _ | with_reducible refine gb_alloc ?_ _))) hg7); have HO7 := Lib.hid (HO.out.kept HG7.out); have HB27 := Lib.hid (bx HG7.out HB2r.out); obtain ⟨h0, h1, h2, h3, h4, h5, h6, h7⟩ := cells7u HB27.out; have hb27 : b2 < w7.heap.size := hlt HB27.out; have HS57 : Hid (Bz ≤ w7.heap.size) := Lib.hid (Nat.le_trans HSr.out HG7.out.size); have HNEW := Lib.hid (heap_alloc_new w7 (.cells #[q0, q1, q2, q3, q4, q5, q6] 33)); clear hg7 hq))
              all_goals
                have hga : w7.grownBy (w7.alloc (.cells #[q0, q1, q2, q3, q4, q5, q6] 33)) none := World.grownBy_alloc _ _ _
                have HLS9 : Hid (LsU (fun k => Bz ≤ k ∧ k < (w9.setCell ⟨b2, 5, none⟩ (.slice (some ⟨g9, 0, none⟩) (rows.length + 1) cap9)).heap.size ∧ k ≠ b2 ∧ (Value.slice (some ⟨g9, 0, none⟩) (rows.length + 1) cap9).ownBlock ≠ some k) (w9.setCell ⟨b2, 5, none⟩ (.slice (some ⟨g9, 0, none⟩) (rows.length + 1) cap9)) (ks.take (j + 1)) (rows ++ [[q0, q1, q2, q3, q4, q5, q6]])) := Lib.hid (by
                  rw [HTE.out]
                  exact push_u (w7 := w7) (wa := w7.alloc (.cells #[q0, q1, q2, q3, q4, q5, q6] 33)) HSr.out HO.out hb2z hb2r HLS.out HG7.out HQ.out hga (by simp) HG9.out HL9.out (gb_refl _ _))
                have HB10 : Hid ((w9.setCell ⟨b2, 5, none⟩ (.slice (some ⟨g9, 0, none⟩) (rows.length + 1) cap9)).heap[b2]? = some (.cells #[.int .i64 op, .string sn, .string sm, .string u, .bool ys, .slice (some ⟨g9, 0, none⟩) (rows.length + 1) cap9, .int .i64 ps] 33 (0, 0))) := Lib.hid (set_cells (i := 5) (u := .slice (some ⟨g9, 0, none⟩) (rows.length + 1) cap9) HB9.out)
                have HO10 : Hid (OwnG 7 33 (w9.setCell ⟨b2, 5, none⟩ (.slice (some ⟨g9, 0, none⟩) (rows.length + 1) cap9)) Bz (.slice (some ⟨g9, 0, none⟩) (rows.length + 1) cap9) (rows ++ [[q0, q1, q2, q3, q4, q5, q6]])) := Lib.hid (HO9.out.keptS (Fr2.setCell (S := fun k => k = b2) (Fr2.refl _ _) (g := b2) (j := 5) rfl _) (fun g hg e => by omega))
                have HF10 : Hid (Fr2 (fun k => k = b2) wc (w9.setCell ⟨b2, 5, none⟩ (.slice (some ⟨g9, 0, none⟩) (rows.length + 1) cap9))) := Lib.hid ((HF.out.low (Below.trans2 (Below.gb HG7.out HF.out.size) (Below.trans2 (Below.gb hga (by have := HS57.out; have := HBZ.out; omega)) ((Fr2.of HG9.out (S := fun k => (Value.slice pv nv cv).ownBlock = some k) (fun k e => e)).below (by have := HS57.out; have := HBZ.out; simp; omega) (fun k e => by rw [HBZ.out]; exact (OwnG.at HO7.out k e).1))))).setCell rfl _)
                clear hga HO9 HB9 HG9 HL9 HNEW HQ HQ1 HO7 HB27 d0 d1 d2 d3 d4 d5 d6 d7 h0 h1 h2 h3 h4 h5 h6 h7 HLS HO HF
                go_wp2_with fail
                go_roundw
                case rel => exact ⟨j + 1, rows ++ [[q0, q1, q2, q3, q4, q5, q6]], some ⟨g9, 0, none⟩, rows.length + 1, cap9, by omega, by go_num, HB10, HO10, HLS9, HF10⟩
                case measure => simp [intOf]; omega
          · obtain rfl : j = kl := by omega
            have hls := HLS.out
            rw [List.take_of_length_le (by rw [HKL.out]; exact Nat.le_refl _)] at hls
            obtain ⟨hnv, hrow, hblk⟩ := OwnG.rowsU HO.out
            have hrl := hls.len
            have HEX : Hid (RSt (fun k => Bz ≤ k) wr (.mk op nm md nu ys ks ps) [.int .i64 op, .string sn, .string sm, .string u, .bool ys, .slice pv nv cv, .int .i64 ps]) := Lib.hid (by
              have hl : nv = ks.length := hnv.trans hrl
              subst hl
              simp only [RSt]
              refine ⟨pv, cv, rows, by rw [← HSN.out, ← HSM.out, ← HU.out]; rfl, hrow, LsU.mono (fun k hk => hk.1) hls, fun h0 => ?_⟩
              obtain ⟨a', ha', hb', -⟩ := hblk (fun e => by rw [e] at hrl; exact h0 (List.eq_nil_of_length_eq_zero hrl.symm))
              exact ⟨a', ha', hb'⟩)
            have HB1r : Hid (wr.heap[b0 + 1]? = some (.cells #[.int .i64 0, .string ⟨#[]⟩, .string ⟨#[]⟩, .string ⟨#[]⟩, .bool false, .slice none 0 0, .int .i64 0] 33 (0, 0))) := Lib.hid (HF.out.keep HBB.out (by have := HSZ.out; omega))
            have y3' : decide ((j : Int) < (j : Int)) = false := decide_eq_false (by omega)
            obtain ⟨f0, f1, f2, f3, f4, f5, f6, f7⟩ := cells7u HB2r.out
            obtain ⟨g0, g1, g2, g3, g4, g5, g6, g7⟩ := cells7u HB1r.out
            have hb1r : b0 + 1 < wr.heap.size := hlt HB1r.out
            have HP := Lib.hid (exu_put (w := w) HGr.out (by have := HB0.out; omega) HB1r.out HEX.out (fun k hk => by have h1 := HB0.out; have h2 := HSZ.out; have hk : Bz ≤ k := hk; exact ⟨by omega, by omega⟩))
            clear hls hnv hrow hblk hrl
            go_wp2_with fail
            obtain ⟨hp, -⟩ := set7u HB1r.out (.int .i64 op) (.string sn) (.string sm) (.string u) (.bool ys) (.slice pv nv cv) (.int .i64 ps)
            obtain ⟨r0, r1, r2, r3, r4, r5, r6, -⟩ := cells7u hp
            refine bodyPost_ret (v := .agg #[.int .i64 op, .string sn, .string sm, .string u, .bool ys, .slice pv nv cv, .int .i64 ps]) (by simp [results, Tryz.results14, go_sem, r0, r1, r2, r3, r4, r5, r6]) rfl HP.out
end Go.Proofs.YtddccnpohpaofaaGreatDoor
