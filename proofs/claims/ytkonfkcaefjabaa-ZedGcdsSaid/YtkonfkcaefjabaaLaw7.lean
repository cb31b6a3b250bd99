/- The law on greatest common divisors, walked. -/
import Derived.Test.YtkonfkcaefjabaaGcd7
import Derived.Test.YtkonfkcaefjabaaKnownZ
import Derived.Deep.CutBlock
import Derived.Deep.DeepCutAuto
import Derived.Deep.RegionHeld3
import Derived.Deep.DeepMust
namespace Go.Proofs.Ytkonfkcaefjabaa
open Go.RowKit Mx

theorem lcm_law (A B : Int) : ((lcmN A.natAbs B.natAbs : Nat) : Int) * ((Nat.gcd A.natAbs B.natAbs : Nat) : Int) = (((A * B).natAbs : Nat) : Int) := by
  rw [Int.natAbs_mul, ← lcm_gcd]
  simp

theorem hdrew {w : World} {g : Nat} {o : Obj} (h : w.heap[g]? = some o) : w.drew.heap[g]? = some o := h

set_option maxRecDepth 100000 in
set_option maxHeartbeats 16000000 in
theorem gcds_c (pa : Option Addr) (m cap : Nat) (w : World) (hm : m ≤ cap) (hc : cap ≤ maxLen) (ls : Nat → ByteArray) (hstr : ∀ j, j < m → ∃ a, pa = some a ∧ w.cell? (a.add j) = some (.string (ls j))) :
    Calls Try.prog 9 #[.slice pa m cap] w (ValPost (.bool true) w) := by
  have HSTR := Lib.hid hstr
  clear hstr
  unfold maxLen at hc
  go_enter Try.func9, Try.ntmps9
  go_wp2_with fail
  refine (anchor_c _).mono ?_
  rintro e w1 ⟨rfl, g1⟩
  have G1 := Lib.hid g1
  clear g1
  by_cases h8 : 8 < m
  · have d1 : decide ((8 : Int) < m) = true := decide_eq_true (by omega)
    go_wp2_with fail
    go_ret
    exact ⟨rfl, G1.out⟩
  · have d1 : decide ((8 : Int) < m) = false := decide_eq_false (by omega)
    go_wp2_with fail
    have HST := Lib.hid (rel7_start w1 ls)
    go_loopw [3, 21] (fun v i cur => ∃ k : Nat, k ≤ m ∧ i = .int .i64 k ∧ Hid (GcdRel7 w1 ls v k cur)) (fun _ i _ => m - (intOf i).toNat)
    case atStart => exact ⟨0, by omega, rfl, HST⟩
    case round =>
      clear HST
      obtain ⟨k, hk, rfl, HR⟩ := hrel
      by_cases hlt : k < m
      · obtain ⟨al, rfl, hcs⟩ := HSTR.out k hlt
        obtain ⟨F, gr, hv, hF, hbx, hbl, hsz⟩ := HR.out
        have hwr : w.grownBy wr none := gb_trans G1.out (below_gb hbl)
        have hcs := hwr.cell hcs (by simp)
        have hgrb : 0 < k → w1.heap.size < gr ∧ gr < wr.heap.size := fun h => by
          rcases hv with ⟨-, e⟩ | ⟨-, cap3, -, hO⟩
          · omega
          · obtain ⟨e1, e2, -⟩ := hO.bounds h; omega
        have HF := Lib.hid hF; have HBX := Lib.hid hbx; have HBL := Lib.hid hbl; have HV := Lib.hid hv; have HW := Lib.hid hwr; have HGR := Lib.hid hgrb; have HSZ := Lib.hid hsz
        clear hv hF hbx hbl hwr hgrb hsz HR
        go_wp2_with fail
        clear hcs
        refine (Parse_c (ls k) _).mono ?_
        rintro e w6 ⟨y, rfl, hy, g6, hfar⟩
        obtain ⟨s6, p6, n6, c6, ey, HY6⟩ := int_parts hy
        subst ey
        have HF6 := Lib.hid (hfar s6 p6 n6 c6 rfl)
        obtain ⟨E, hE⟩ : ∃ E, parseE (ls k).data.toList = E := ⟨_, rfl⟩
        rw [hE]
        have hga := World.grownBy_alloc w6 (.cells #[.bool s6, .slice p6 n6 c6] 25) none
        have G6 := Lib.hid (gb_trans g6 hga)
        have HY6 := Lib.hid (HY6.out.kept hga)
        have T6 := Lib.hid (top1 w6 (.cells #[.bool s6, .slice p6 n6 c6] 25))
        have HS6 := Lib.hid g6.size
        have HE := Lib.hid hE
        clear hy hfar g6 hga hE
        go_wp2_with fail
        refine (RParse_c (ls k) _).mono ?_
        rintro e w7 ⟨z, rfl, hz, g7, hzf⟩
        obtain ⟨s7, p7, n7, c7, ez, HZ7⟩ := z_parts hz
        subst ez
        rw [HE.out]
        have hga := World.grownBy_alloc w7 (.cells #[.int .i64 s7, .slice p7 n7 c7] 31) none
        have hs7 : w6.heap.size + 1 ≤ w7.heap.size := by have := g7.size; simpa using this
        have HS7 := Lib.hid hs7
        have G7 := Lib.hid (gb_trans G6.out (gb_trans g7 hga))
        have HY7 := Lib.hid (HY6.out.kept (gb_trans g7 hga))
        have HZ7 := Lib.hid (HZ7.out.kept hga)
        have hf7 : 0 < n7 → ∃ a, p7 = some a ∧ wr.heap.size ≤ a.block := fun h => by
          obtain ⟨a, e1, e2⟩ := hzf (.int .i64 s7) p7 n7 c7 rfl h
          have e3 : w6.heap.size + 1 ≤ a.block := by simpa using e2
          have e4 := HS6.out
          exact ⟨a, e1, by omega⟩
        have HF7 := Lib.hid hf7
        have T7 := Lib.hid (bx (gb_trans g7 hga) T6.out)
        have T9 := Lib.hid (top1 w7 (.cells #[.int .i64 s7, .slice p7 n7 c7] 31))
        clear hz hzf g7 hga HY6 T6 hs7 hf7
        by_cases hE0 : E = 0
        · subst hE0
          obtain ⟨x0, x1, -⟩ := cells_of T7.out
          obtain ⟨gx, hx0, hx1⟩ : ∃ gx, (k = 0 → gx = w7.heap.size + 1) ∧ (0 < k → gx = gr) := ⟨if k = 0 then w7.heap.size + 1 else gr, fun h => by rw [if_pos h], fun h => by rw [if_neg (by omega)]⟩
          have HX0 := Lib.hid hx0; have HX1 := Lib.hid hx1
          obtain ⟨W7, hW7⟩ : ∃ W7, W7 = w7.alloc (.cells #[.int .i64 s7, .slice p7 n7 c7] 31) := ⟨_, rfl⟩
          have hW7s : W7.heap.size = w7.heap.size + 1 := by rw [hW7]; simp
          have hvk : (u3 = .slice none 0 0 ∧ k = 0) ∨ (0 < k ∧ ∃ cap, u3 = .slice (some ⟨gr, 0, none⟩) k cap ∧ OwnZ W7 (w1.heap.size + 1) gr cap k F) := by
            rcases HV.out with h | ⟨h1, cap3, h2, h3⟩
            · exact .inl h
            · exact .inr ⟨h1, cap3, h2, h3.kept (by rw [hW7]; exact G7.out)⟩
          have HVK := Lib.hid hvk
          have hbase : w1.heap.size + 1 ≤ W7.heap.size := by have h1 := HSZ.out; have h2 := G7.out.size; rw [← hW7] at h2; omega
          have HBASE := Lib.hid hbase; have HWS := Lib.hid hW7s
          have HYW := Lib.hid (show IsInt W7 _ _ from hW7 ▸ HY7.out)
          have HZP : Hid (0 < k → ∀ a, 0 < n6 → p6 = some a → a.block ≠ gr) := Lib.hid (fun h a hn ha => by
            obtain ⟨b, e1, e2⟩ := HF6.out hn
            rw [ha] at e1; injection e1 with e1; subst e1
            have := (HGR.out h).2
            omega)
          have HTW := Lib.hid (show W7.heap[w7.heap.size]? = _ from hW7 ▸ T9.out)
          have HZW := Lib.hid (show IsZ W7 _ _ from hW7 ▸ HZ7.out)
          have HGW := Lib.hid (show wr.grownBy W7 none from hW7 ▸ G7.out)
          clear hx0 hx1 hvk hbase hW7s HV HY7 T9 HZ7 G7 T7
          go_wp2_with (at_builtin; go_loud (rw [← hW7]; clear hW7; refine wpList_appZU (t := 59) Try.underlying59 rfl _ _ rfl (w1.heap.size + 1) gr gx k F u3 HVK.out (fun h => (HX0.out h).trans HWS.out.symm) HX1.out s6 p6 n6 c6 _ rfl HYW.out HZP.out (w7.heap.size + 1) HWS.out rfl (by omega) HBASE.out ?_))
          intro g' cap' w8 hO8 hG8 hg8
          obtain ⟨s0, p0, n0, c0, qa, qb, hb8, hz8, ht8, hu8, hqa, hqb, hfar8, hbl8⟩ := rel7_mid (k := k) HBX.out HGW.out HTW.out HZW.out HF7.out HSZ.out (by have h1 := HS6.out; have h2 := HS7.out; omega) (fun h => (HX0.out h).trans HWS.out.symm) (fun h => ⟨HX1.out h, HGR.out h⟩) hG8 hg8 (hO8.bounds (by omega)).2.1 HBL.out
          have hFn : ∀ j, j < k + 1 → (fun j => if j = k then parseV (ls k).data.toList else F j) j = parseV (ls j).data.toList := fun j hj => by
            by_cases e : j = k
            · subst e; simp
            · simp only [if_neg e]; exact HF.out j (by omega)
          have HFN := Lib.hid hFn; have HO8 := Lib.hid hO8; have HB8 := Lib.hid hb8; have HFAR := Lib.hid hfar8; have HBL8 := Lib.hid hbl8
          have hga : (((gF F k : Nat) : Int)).natAbs < 10 ^ 120 := by
            rw [Int.natAbs_natCast]; exact Nat.lt_of_lt_of_le (gF_ten HF.out) (ten_le (by omega))
          have hgb : (parseV (ls k).data.toList).natAbs < 10 ^ 120 := Nat.lt_of_lt_of_le (parse_ten _) (ten_le (by omega))
          have HRG := Lib.hid (RGcd_c s0 s7 p0 p7 qa qb n0 n7 c0 c7 _ _ w8 hz8 hu8 hga hgb hqa hqb)
          have HNX := Lib.hid (gF_next F k (parseV (ls k).data.toList))
          obtain ⟨y0, y1, -⟩ := zcells_of hb8
          obtain ⟨v0, v1, -⟩ := zcells_of ht8
          clear hFn hO8 hb8 hz8 ht8 hu8 hqa hqb hfar8 hbl8 hG8 hg8 hga hgb x0 x1 HVK HYW HZP HTW HZW HGW HBASE HF HBX HBL HF7
          go_wp2_with (go_at_call 33; refine HRG.out.mono ?_; rintro e w9 ⟨s9, p9, n9, c9, rfl, hz9, hg9, hf9⟩; have HZ9 := Lib.hid (HNX.out ▸ hz9); have HG9 := Lib.hid hg9; have HF9 := Lib.hid hf9; obtain ⟨y0, y1, y2⟩ := zcells_of (bx hg9 HB8.out); clear hz9 hg9 hf9)
          go_roundw
          case measure => simp [intOf]; omega
          case rel => exact ⟨k + 1, by omega, by go_num, Lib.hid (rel7_step HO8.out HFN.out HB8.out HG9.out HZ9.out (fun h => by obtain ⟨a, e1, e2⟩ := HF9.out h; exact ⟨a, e1, HFAR.out a e2⟩) HBL8.out rfl)⟩
        · have d9 : (E != 0) = true := bne_iff_ne.2 hE0
          have HFIN := Lib.hid (gb_trans HW.out G7.out)
          go_wp2_with fail
          go_ret
          exact ⟨rfl, HFIN.out⟩
      · obtain rfl : k = m := by omega
        obtain ⟨F, gr, cap', pv, s, p, l, c, hv, hpv, hmc, hcm, hzs, hFA, hFB, ⟨s0, p0, n0, c0, b0, z0⟩, hgr⟩ := rel7_end HR.out
        have HZS := Lib.hid hzs; have HFA := Lib.hid hFA; have HFB := Lib.hid (fun _ : Unit => hFB); have HB0 := Lib.hid b0; have HZ0 := Lib.hid z0; have HPV := Lib.hid hpv
        have G2 := Lib.hid (gb_trans G1.out hgr)
        have HCA := Lib.hid (GcdZ_c pv gr k cap' s p l c F wr hpv hmc hcm hzs (fun j hj => lim_k (k := 4) (by omega) (ten_bw (hFA j hj))))
        subst hv
        clear hzs hFA hFB b0 z0 hgr hpv hmc hcm HR G1 HSTR
        go_wp2_with fail
        refine HCA.out.mono ?_
        rintro e w2 ⟨x, rfl, hx, hg⟩
        obtain ⟨s2, p2, n2, c2, ex, HX2⟩ := int_parts hx
        subst ex
        have hga := World.grownBy_alloc w2 (.cells #[.bool s2, .slice p2 n2 c2] 25) none
        have hgg := gb_trans hg hga
        obtain ⟨x0, x1, -⟩ := cells_of (top1 w2 (.cells #[.bool s2, .slice p2 n2 c2] 25))
        obtain ⟨y0, y1, -⟩ := zcells_of (bx hgg HB0.out)
        have hgn : (((gF F k : Nat) : Int)).natAbs = gF F k := Int.natAbs_natCast _
        have hK : Known (w2.alloc (.cells #[.bool s2, .slice p2 n2 c2] 25)) [(.agg #[.bool s2, .slice p2 n2 c2], ((gF F k : Nat) : Int), 4)] := (Known.nil _).cons (HX2.out.kept hga) (hgn.symm ▸ ten_bw (HFB.out ()))
        have hZ : KnownZ (w2.alloc (.cells #[.bool s2, .slice p2 n2 c2] 25)) [(.agg #[.int .i64 s0, .slice p0 n0 c0], ((gF F k : Nat) : Int), 60)] := (KnownZ.nil _).cons (HZ0.out.kept hgg) (hgn.symm ▸ HFB.out ())
        have HK := Lib.hid hK; have HZ := Lib.hid hZ
        have G3 := Lib.hid (gb_trans G2.out hgg)
        have HZS := Lib.hid (HZS.out.kept hgg)
        have hS := And.intro x0 (And.intro x1 (And.intro y0 y1))
        obtain ⟨T1, hT1⟩ : ∃ T : ByteArray, txt ((gF F k : Nat) : Int) = .string T := ⟨_, rfl⟩
        have HT1 := Lib.hid hT1
        have hTT1 : (T1.toList == T1.toList) = true := by simp
        clear hx HX2 hga hgg hg x0 x1 y0 y1 hgn hK hZ hT1 G2 HB0 HZ0 HCA
        go_wp2_with fail
        generalize w2.heap.size = q at *
        generalize w2.alloc (.cells #[.bool s2, .slice p2 n2 c2] 25) = W3 at *
        have HGc := Lib.hid (gb_refl W3 none)
        have HG := Lib.hid (gb_refl W3 none)
        go_cut [55] (fun t wx => t = .bool false ∧ Hid (W3.grownBy wx none))
        case first =>
          go_region_held3 (fun w' => w'.cell? ⟨q, 0, none⟩ = some (.bool s2) ∧ w'.cell? ⟨q, 1, none⟩ = some (.slice p2 n2 c2) ∧ w'.cell? ⟨w1.heap.size, 0, none⟩ = some (.int .i64 s0) ∧ w'.cell? ⟨w1.heap.size, 1, none⟩ = some (.slice p0 n0 c0)) (first | with_reducible exact hS | exact s4 hS (below_gb (gb_new (gb_below (by repeat (first | with_reducible exact HGc.out | with_reducible exact gb_refl _ _ | with_reducible refine gb_drew ?_ | with_reducible refine gb_alloc ?_ _))) (by first | omega | (simp; omega)) (gb_set (gb_set (gb_refl _ _) _) _))) | exact s4 hS (by repeat (first | with_reducible exact HGc.out | with_reducible exact gb_refl _ _ | with_reducible refine gb_drew ?_ | with_reducible refine gb_alloc ?_ _)))
            (first | (go_at_call 15; go_must (refine (String_k (HK.out.kept (by repeat (first | with_reducible exact gb_refl _ _ | with_reducible refine gb_drew ?_ | with_reducible refine gb_alloc ?_ _))) (by repeat (first | exact List.Mem.head _ | refine List.Mem.tail _ ?_)) (by omega)).mono ?_); rintro e w9 ⟨rfl, hg9⟩; rw [HT1.out]; have HZ := Lib.hid (HZ.out.kept (gb_trans (by repeat (first | with_reducible exact gb_refl _ _ | with_reducible refine gb_drew ?_ | with_reducible refine gb_alloc ?_ _)) hg9)); have HK := Lib.hid (HK.out.kept (gb_trans (by repeat (first | with_reducible exact gb_refl _ _ | with_reducible refine gb_drew ?_ | with_reducible refine gb_alloc ?_ _)) hg9)); (try with_reducible have hg9 := undrew hg9); have HGc := Lib.hid (gb_trans (show W3.grownBy _ none from (by repeat (first | with_reducible exact HGc.out | with_reducible exact gb_refl _ _ | with_reducible refine gb_drew ?_ | with_reducible refine gb_alloc ?_ _))) hg9); have HG := Lib.hid hg9; clear hg9) | (go_at_call 23; go_must (refine (Text_k (HZ.out.kept (by repeat (first | with_reducible exact gb_refl _ _ | with_reducible refine gb_drew ?_ | with_reducible refine gb_alloc ?_ _))) (by repeat (first | exact List.Mem.head _ | refine List.Mem.tail _ ?_)) (by omega)).mono ?_); rintro e w9 ⟨rfl, hg9⟩; rw [HT1.out]; have HZ := Lib.hid (HZ.out.kept (gb_trans (by repeat (first | with_reducible exact gb_refl _ _ | with_reducible refine gb_drew ?_ | with_reducible refine gb_alloc ?_ _)) hg9)); have HK := Lib.hid (HK.out.kept (gb_trans (by repeat (first | with_reducible exact gb_refl _ _ | with_reducible refine gb_drew ?_ | with_reducible refine gb_alloc ?_ _)) hg9)); (try with_reducible have hg9 := undrew hg9); have HGc := Lib.hid (gb_trans (show W3.grownBy _ none from (by repeat (first | with_reducible exact HGc.out | with_reducible exact gb_refl _ _ | with_reducible refine gb_drew ?_ | with_reducible refine gb_alloc ?_ _))) hg9); have HG := Lib.hid hg9; clear hg9))
          all_goals
            go_wp2
            go_meet
            exact ⟨rfl, HGc.out⟩
        case rest =>
          obtain ⟨rfl, G7⟩ := hcut
          have HZS := Lib.hid (HZS.out.kept G7.out)
          have G8 := Lib.hid (gb_trans G3.out G7.out)
          clear HGc HG G7 G3 hS HK HZ HT1 hTT1
          by_cases h2 : k < 2
          · have d2 : decide ((k : Int) < 2) = true := decide_eq_true (by omega)
            go_wp2_with fail
            go_ret
            exact ⟨rfl, G8.out⟩
          · have d2 : decide ((k : Int) < 2) = false := decide_eq_false (by omega)
            obtain rfl : pv = some ⟨gr, 0, none⟩ := by
              rcases HPV.out with h | h
              · omega
              · exact h
            have hk0 : 0 < k := by omega
            have hk1 : (1 : Int) < (k : Int) := by omega
            obtain ⟨x0, x1, hx⟩ := HZS.out 0 (by omega)
            obtain ⟨y0, y1, hy⟩ := HZS.out 1 (by omega)
            have hA4 := ten_bw (HFA.out 0 (by omega))
            have hB4 := ten_bw (HFA.out 1 (by omega))
            simp only [Nat.mul_zero, Nat.mul_one, Nat.zero_add, Nat.reduceAdd] at x0 x1 y0 y1
            generalize s 0 = sx at *
            generalize p 0 = p4 at *
            generalize l 0 = n4 at *
            generalize c 0 = c4 at *
            generalize F 0 = A at *
            generalize s 1 = sy at *
            generalize p 1 = p5 at *
            generalize l 1 = n5 at *
            generalize c 1 = c5 at *
            generalize F 1 = B at *
            have hK : Known wc [(.agg #[.bool sy, .slice p5 n5 c5], B, 4), (.agg #[.bool sx, .slice p4 n4 c4], A, 4)] := ((Known.nil _).cons hx hA4).cons hy hB4
            have HK := Lib.hid hK
            have hS := And.intro x0 (And.intro x1 (And.intro y0 y1))
            obtain ⟨W3, hW3⟩ : ∃ W, W = wc := ⟨_, rfl⟩
            have HLT := Lib.hid (wc.block_lt_of_cell? _ x0)
            subst hW3
            have HGc := Lib.hid (gb_refl W3 none)
            have HG := Lib.hid (gb_refl W3 none)
            have HK0 := HK
            clear hK hx hy hA4 hB4 x0 x1 y0 y1 HFA HFB HZS HPV
            go_wp2_with fail
            go_cut [12] (fun t wx => ∃ h s p n c, t = .pointer (some ⟨h, 0, none⟩) ∧ Hid (wx.heap[h]? = some (.cells #[.bool s, .slice p n c] 25 (0, 0))) ∧ Hid (IsInt wx (.agg #[.bool s, .slice p n c]) ((lcmN A.natAbs B.natAbs : Nat) : Int)) ∧ Hid ((((lcmN A.natAbs B.natAbs : Nat) : Int)).natAbs < Bw ^ 8) ∧ Hid (W3.grownBy wx none))
            case first =>
              have hlt := HLT.out
              go_region_held3 (fun w' => w'.cell? ⟨gr, 0, none⟩ = some (.bool sx) ∧ w'.cell? ⟨gr, 1, none⟩ = some (.slice p4 n4 c4) ∧ w'.cell? ⟨gr, 2, none⟩ = some (.bool sy) ∧ w'.cell? ⟨gr, 3, none⟩ = some (.slice p5 n5 c5)) (first | with_reducible exact hS | exact s4 hS (below_gb (gb_new (gb_below (by repeat (first | with_reducible exact HGc.out | with_reducible exact gb_refl _ _ | with_reducible refine gb_drew ?_ | with_reducible refine gb_alloc ?_ _))) (by first | omega | (simp; omega)) (gb_set (gb_set (gb_refl _ _) _) _))) | exact s4 hS (by repeat (first | with_reducible exact HGc.out | with_reducible exact gb_refl _ _ | with_reducible refine gb_drew ?_ | with_reducible refine gb_alloc ?_ _)))
                (first
                | (go_at_call 35; go_must (refine (Lcm_k (HK.out.kept (by repeat (first | with_reducible exact gb_refl _ _ | with_reducible refine gb_drew ?_ | with_reducible refine gb_alloc ?_ _))) (by repeat (first | exact List.Mem.head _ | refine List.Mem.tail _ ?_)) (by repeat (first | exact List.Mem.head _ | refine List.Mem.tail _ ?_)) (by omega) (by omega)).mono ?_); rintro e w9 ⟨s9, p9, n9, c9, rfl, hk9, hg9⟩; (try with_reducible have hg9 := undrew hg9); (first | (have HBX := Lib.hid (bx hg9 (top2 _ _ (.cells #[.bool false, .slice none 0 0] 25))); obtain ⟨hx0, hx1, hx2⟩ := cells_of HBX.out) | (have HBX := Lib.hid (bx hg9 (top1 _ (.cells #[.bool false, .slice none 0 0] 25))); obtain ⟨hx0, hx1, hx2⟩ := cells_of HBX.out) | (have HBX := Lib.hid (bx hg9 (bxa (top1 _ (.cells #[.bool false, .slice none 0 0] 25)))); obtain ⟨hx0, hx1, hx2⟩ := cells_of HBX.out) | (have HBX := Lib.hid (bx hg9 HBX.out); obtain ⟨hx0, hx1, hx2⟩ := cells_of HBX.out) | (have HBX := Lib.hid (bx hg9 (bxa HBX.out)); obtain ⟨hx0, hx1, hx2⟩ := cells_of HBX.out) | skip); have HGc := Lib.hid (gb_trans (show W3.grownBy _ none from (by repeat (first | with_reducible exact HGc.out | with_reducible exact gb_refl _ _ | with_reducible refine gb_drew ?_ | with_reducible refine gb_alloc ?_ _))) hg9); have HG := Lib.hid hg9; have HK := Lib.hid hk9; have hz9 := HGc.out.size; clear hk9 hg9))
              all_goals
                go_wp2
                go_meet
                first
                  | exact ⟨_, _, _, _, _, rfl, (box_set HBX.out (gb_refl _ none) (HK.out _ (List.Mem.head _)).1).2.1, (box_set HBX.out (gb_refl _ none) (HK.out _ (List.Mem.head _)).1).1, (HK.out _ (List.Mem.head _)).2, below_gb (gb_new (gb_below HGc.out) (by first | omega | (simp; omega)) (box_set HBX.out (gb_refl _ none) (HK.out _ (List.Mem.head _)).1).2.2)⟩
                  | exact ⟨_, _, _, _, _, rfl, top1 _ _, (HK.out _ (List.Mem.head _)).1.kept (World.grownBy_alloc _ _ none), (HK.out _ (List.Mem.head _)).2, gb_alloc HGc.out _⟩
            case rest =>
              obtain ⟨h, sp, pp, np, cp, rfl, HBP, HIP, HPB, G9⟩ := hcut
              have hK := (HK0.out.kept G9.out).cons HIP.out HPB.out
              have HK := Lib.hid hK
              obtain ⟨x0, x1, y0, y1⟩ := s4 hS G9.out
              obtain ⟨h0, h1, -⟩ := cells_of HBP.out
              have hS := And.intro x0 (And.intro x1 (And.intro y0 (And.intro y1 (And.intro h0 h1))))
              have G10 := Lib.hid (gb_trans G8.out G9.out)
              clear HIP G9 G8 HGc HG hK HBP HPB HK0 x0 x1 y0 y1 h0 h1
              go_wp2_with fail
              obtain ⟨W3, hW3⟩ : ∃ W, W = wc := ⟨_, rfl⟩
              subst hW3
              have HGc := Lib.hid (gb_refl W3 none)
              have HG := Lib.hid (gb_refl W3 none)
              have HCE := Lib.hid (lcm_law A B)
              go_region_held3 (fun w' => w'.cell? ⟨gr, 0, none⟩ = some (.bool sx) ∧ w'.cell? ⟨gr, 1, none⟩ = some (.slice p4 n4 c4) ∧ w'.cell? ⟨gr, 2, none⟩ = some (.bool sy) ∧ w'.cell? ⟨gr, 3, none⟩ = some (.slice p5 n5 c5) ∧ w'.cell? ⟨h, 0, none⟩ = some (.bool sp) ∧ w'.cell? ⟨h, 1, none⟩ = some (.slice pp np cp)) (first | with_reducible exact hS | exact s6 hS (below_gb (gb_new (gb_below (by repeat (first | with_reducible exact HGc.out | with_reducible exact gb_refl _ _ | with_reducible refine gb_drew ?_ | with_reducible refine gb_alloc ?_ _))) (by first | omega | (simp; omega)) (gb_set (gb_set (gb_refl _ _) _) _))) | exact s6 hS (by repeat (first | with_reducible exact HGc.out | with_reducible exact gb_refl _ _ | with_reducible refine gb_drew ?_ | with_reducible refine gb_alloc ?_ _)))
                (first
                | (go_at_call 34; go_must (refine (Gcd2_k (HK.out.kept (by repeat (first | with_reducible exact gb_refl _ _ | with_reducible refine gb_drew ?_ | with_reducible refine gb_alloc ?_ _))) (by (repeat with_reducible refine hdrew ?_); first | with_reducible exact HBX.out | with_reducible exact top1 _ _ | with_reducible exact bxa HBX.out | with_reducible exact top2 _ _ _ | with_reducible exact bxa (top1 _ _)) (by repeat (first | exact List.Mem.head _ | refine List.Mem.tail _ ?_)) (by repeat (first | exact List.Mem.head _ | refine List.Mem.tail _ ?_)) (by omega) (by omega) (by omega)).mono ?_); rintro e w9 ⟨s9, p9, n9, c9, rfl, hk9, hg9⟩; (try with_reducible have hg9 := undrew hg9); (first | (have HBX := Lib.hid (bx hg9 (top2 _ _ (.cells #[.bool sx, .slice p4 n4 c4, .bool sy, .slice p5 n5 c5] 25))); skip) | (have HBX := Lib.hid (bx hg9 (top1 _ (.cells #[.bool sx, .slice p4 n4 c4, .bool sy, .slice p5 n5 c5] 25))); skip) | (have HBX := Lib.hid (bx hg9 (bxa (top1 _ (.cells #[.bool sx, .slice p4 n4 c4, .bool sy, .slice p5 n5 c5] 25)))); skip) | (have HBX := Lib.hid (bx hg9 HBX.out); skip) | (have HBX := Lib.hid (bx hg9 (bxa HBX.out)); skip) | skip); have HGc := Lib.hid (gb_trans (show W3.grownBy _ none from (by repeat (first | with_reducible exact HGc.out | with_reducible exact gb_refl _ _ | with_reducible refine gb_drew ?_ | with_reducible refine gb_alloc ?_ _))) hg9); have HG := Lib.hid hg9; have HK := Lib.hid hk9; have hz9 := HGc.out.size; clear hk9 hg9)
                | (go_at_call 28; go_must (refine (Mul_k (HK.out.kept (by repeat (first | with_reducible exact gb_refl _ _ | with_reducible refine gb_drew ?_ | with_reducible refine gb_alloc ?_ _))) (by repeat (first | exact List.Mem.head _ | refine List.Mem.tail _ ?_)) (by repeat (first | exact List.Mem.head _ | refine List.Mem.tail _ ?_)) (by omega) (by omega)).mono ?_); rintro e w9 ⟨s9, p9, n9, c9, rfl, hk9, hg9⟩; (try with_reducible have hg9 := undrew hg9); (first | (have HBX := Lib.hid (bx hg9 (top2 _ _ (.cells #[.bool sx, .slice p4 n4 c4, .bool sy, .slice p5 n5 c5] 25))); skip) | (have HBX := Lib.hid (bx hg9 (top1 _ (.cells #[.bool sx, .slice p4 n4 c4, .bool sy, .slice p5 n5 c5] 25))); skip) | (have HBX := Lib.hid (bx hg9 (bxa (top1 _ (.cells #[.bool sx, .slice p4 n4 c4, .bool sy, .slice p5 n5 c5] 25)))); skip) | (have HBX := Lib.hid (bx hg9 HBX.out); skip) | (have HBX := Lib.hid (bx hg9 (bxa HBX.out)); skip) | skip); have HGc := Lib.hid (gb_trans (show W3.grownBy _ none from (by repeat (first | with_reducible exact HGc.out | with_reducible exact gb_refl _ _ | with_reducible refine gb_drew ?_ | with_reducible refine gb_alloc ?_ _))) hg9); have HG := Lib.hid hg9; have HK := Lib.hid hk9; have hz9 := HGc.out.size; clear hk9 hg9)
                | (go_at_call 32; go_must (refine (Abs_k (HK.out.kept (by repeat (first | with_reducible exact gb_refl _ _ | with_reducible refine gb_drew ?_ | with_reducible refine gb_alloc ?_ _))) (by repeat (first | exact List.Mem.head _ | refine List.Mem.tail _ ?_))).mono ?_); rintro e w9 ⟨s9, p9, n9, c9, rfl, hk9, hg9⟩; (try with_reducible have hg9 := undrew hg9); (first | (have HBX := Lib.hid (bx hg9 (top2 _ _ (.cells #[.bool sx, .slice p4 n4 c4, .bool sy, .slice p5 n5 c5] 25))); skip) | (have HBX := Lib.hid (bx hg9 (top1 _ (.cells #[.bool sx, .slice p4 n4 c4, .bool sy, .slice p5 n5 c5] 25))); skip) | (have HBX := Lib.hid (bx hg9 (bxa (top1 _ (.cells #[.bool sx, .slice p4 n4 c4, .bool sy, .slice p5 n5 c5] 25)))); skip) | (have HBX := Lib.hid (bx hg9 HBX.out); skip) | (have HBX := Lib.hid (bx hg9 (bxa HBX.out)); skip) | skip); have HGc := Lib.hid (gb_trans (show W3.grownBy _ none from (by repeat (first | with_reducible exact HGc.out | with_reducible exact gb_refl _ _ | with_reducible refine gb_drew ?_ | with_reducible refine gb_alloc ?_ _))) hg9); have HG := Lib.hid hg9; have HK := Lib.hid hk9; have hz9 := HGc.out.size; clear hk9 hg9)
                | (go_at_call 18; go_must (refine (Cmp_k (HK.out.kept (by repeat (first | with_reducible exact gb_refl _ _ | with_reducible refine gb_drew ?_ | with_reducible refine gb_alloc ?_ _))) (by repeat (first | exact List.Mem.head _ | refine List.Mem.tail _ ?_)) (by repeat (first | exact List.Mem.head _ | refine List.Mem.tail _ ?_)) (by omega) (by omega) (cmp_eq HCE.out)).mono ?_); rintro e w9 ⟨rfl, hg9⟩; (try with_reducible have hg9 := undrew hg9); have HGc := Lib.hid (gb_trans (show W3.grownBy _ none from (by repeat (first | with_reducible exact HGc.out | with_reducible exact gb_refl _ _ | with_reducible refine gb_drew ?_ | with_reducible refine gb_alloc ?_ _))) hg9); have HG := Lib.hid hg9; have HK := Lib.hid (HK.out.kept (gb_trans (by repeat (first | with_reducible exact gb_refl _ _ | with_reducible refine gb_drew ?_ | with_reducible refine gb_alloc ?_ _)) hg9)); clear hg9))
              all_goals
                go_wp2
                go_ret
                exact ⟨rfl, gb_trans G10.out HGc.out⟩
end Go.Proofs.Ytkonfkcaefjabaa
