/- Lemmas. -/
import Derived.Test.YtddccnpohpaofaaGreatDoorP30
set_option linter.unusedVariables false
set_option linter.unusedSimpArgs false
namespace Go.Proofs.YtddccnpohpaofaaGreatDoor
open Go.RowKit

set_option maxRecDepth 100000 in
set_option maxHeartbeats 16000000 in
theorem walkB_c (fn : Nat) (hfn : fn = 24) {σ : Type} (st : σ → Ex → Nat → σ) (b B : Nat) (F : Nat → Prop) (P : σ → World → Prop) (LL : σ → Prop) (QQ : Ex → Prop) (H : Tell st fn b B F P LL QQ) (x : Ex) (g o : Nat) (s : σ) (w : World) (hs : P s w) (hx : PAtE F w g o x) (hB : b < w.heap.size) (hc : cntE x ≤ 1000000) (hL : LL (runE st x s)) (hQ : QQ x) :
    Calls Tryz.prog 23 #[.pointer (some ⟨g, o, none⟩), .func (.func fn) #[] #[.pointer (some ⟨b, 0, none⟩)]] w (fun e w' => e = .returned (.tuple #[]) ∧ P (runE st x s) w' ∧ Below B w w') := by
  subst hfn
  all_goals
    have HH := Lib.hid H; have HP := Lib.hid hs; have HX := Lib.hid hx
    have HTL := Lib.hid H.tell
    obtain ⟨fin, hfin⟩ : ∃ fin, runE st x s = fin := ⟨_, rfl⟩
    have HFI := Lib.hid hfin
    rw [hfin] at hL
    have HLF := Lib.hid hL
    have HQX := Lib.hid hQ
    have HBb := Lib.hid H.box
    rw [hfin]
    have HBW : Hid (B ≤ w.heap.size) := Lib.hid (by have := H.box; omega)
    have HC := Lib.hid hc
    have HCX := Lib.hid hc
    have HO0 := Lib.hid (OwnG.new (s := 2) (T := 112) w w.heap.size [.pointer (some ⟨g, o, none⟩), .int .i64 0] rfl (fun u hu => by simp at hu; rcases hu with rfl | rfl <;> rfl) (Nat.le_refl _))
    have HG0 := Lib.hid (World.grownBy_alloc w (.cells #[.pointer (some ⟨g, o, none⟩), .int .i64 0] 112) none)
    obtain ⟨base, hbase⟩ : ∃ base, w.heap.size = base := ⟨_, rfl⟩
    have HBA := Lib.hid hbase
    have HBB : Hid (b < base) := Lib.hid (by omega)
    rw [hbase] at HO0
    clear H hs hx hc hfin hB hbase hL hQ
    go_enter Tryz.func23, Tryz.ntmps23
    go_wp2_with fail
    try rw [HBA.out]
    have HP0 := Lib.hid (HH.out.grown _ _ _ HP.out HG0.out)
    have HX0 := Lib.hid (HH.out.at HX.out (Below.gb HG0.out HBW.out))
    have HBE0 : Hid (Below B w (w.alloc (.cells #[.pointer (some ⟨g, o, none⟩), .int .i64 0] 112))) := Lib.hid (Below.gb HG0.out HBW.out)
    have HSZ0 : Hid (base < (w.alloc (.cells #[.pointer (some ⟨g, o, none⟩), .int .i64 0] 112)).heap.size) := Lib.hid (by simp; have := HBA.out; omega)
    have HOW : Hid (OwnG 2 112 (w.alloc (.cells #[.pointer (some ⟨g, o, none⟩), .int .i64 0] 112)) base (.slice (some ⟨base, 0, none⟩) 1 1) [[.pointer (some ⟨g, o, none⟩), .int .i64 0]]) := Lib.hid HO0.out
    have HFW : Hid (runG st [⟨x, 0, g, o⟩] s = fin) := Lib.hid (by
      have e : runG st [⟨x, 0, g, o⟩] s = rsF st ⟨x, 0, g, o⟩ s := by simp [runG]
      rw [e, ← runE_eq]; exact HFI.out)
    have HCW : Hid (cntG [⟨x, 0, g, o⟩] ≤ 1000000) := Lib.hid (by
      have e : cntG [⟨x, 0, g, o⟩] = cntF ⟨x, 0, g, o⟩ := by simp [cntG]
      rw [e, ← cntE_eq]; exact HC.out)
    generalize (w.alloc (.cells #[.pointer (some ⟨g, o, none⟩), .int .i64 0] 112)) = W at *
    clear HO0 HG0 HP HX HFI HC
    go_loopg [4] (cntG [⟨x, 0, g, o⟩]) (fun gk av wr => ∃ (G : List Fm) (s' : σ), cntG G ≤ gk ∧ gk ≤ 1000000 ∧ Hid (OwnG 2 112 wr base av (G.map rowF)) ∧ Hid (P s' wr) ∧ Hid (runG st G s' = fin) ∧ Hid (∀ f ∈ G, PAtE F W f.g f.o f.x ∧ f.d ≤ (kidsE f.x).length ∧ cntE f.x ≤ 1000000 ∧ QQ f.x) ∧ Hid (Below B W wr) ∧ Hid (base ≤ wr.heap.size))
    case atStart => exact ⟨[⟨x, 0, g, o⟩], s, Nat.le_refl _, HCW.out, HOW, HP0, HFW, Lib.hid (fun f hf => by simp at hf; subst hf; exact ⟨HX0.out, Nat.zero_le _, HCX.out, HQX.out⟩), Lib.hid (Below.refl _ _), Lib.hid (Nat.le_of_lt HSZ0.out)⟩
    case round =>
      obtain ⟨G, s', hcg, hgk, HO, HPS, HRU, HALL, HBE, HSR⟩ := hrel
      rcases list_last8 G with rfl | ⟨G', f, rfl⟩
      · have hv : ∃ p c, u4 = .slice p 0 c := by
          obtain ⟨p, c, e, -⟩ := HO.out.is
          exact ⟨p, c, e⟩
        obtain ⟨p, c, rfl⟩ := hv
        have HFE : Hid (s' = fin) := Lib.hid HRU.out
        have HBF := Lib.hid (Below.trans2 HBE0.out HBE.out)
        go_wp2_with fail
        go_end0
        exact ⟨rfl, by rw [← HFE.out]; exact HPS.out, HBF.out⟩
      · have hO : OwnG 2 112 wr base u4 (G'.map rowF ++ [rowF f]) := by have := HO.out; rwa [List.map_append] at this
        obtain ⟨L, hL⟩ : ∃ L, (G'.map rowF).length = L := ⟨_, rfl⟩
        obtain ⟨p, c, rfl, hga, hnc, hcm, -⟩ := hO.is
        obtain ⟨-, hpop, ga, rfl⟩ := hO.pop
        have hgb := hO.blk
        obtain ⟨g2, o2, hp2, hgl, hcs⟩ := hga.resolve_left (by simp)
        injection hp2 with hp2; injection hp2 with hp2 hp3; subst hp2 hp3
        have a0 := hcs L (rowF f) (by rw [← hL]; simp) 0 _ rfl
        have a1 := hcs L (rowF f) (by rw [← hL]; simp) 1 _ rfl
        rw [Nat.zero_add, Nat.add_zero] at a0
        rw [Nat.zero_add] at a1
        have hlen : (G'.map rowF ++ [rowF f]).length = L + 1 := by rw [List.length_append, hL]; rfl
        rw [hlen] at hO hnc ⊢
        rw [hL] at hpop
        have HLG : Hid (G'.length = L) := Lib.hid (by rw [← hL, List.length_map])
        have hLb : L + 1 ≤ 1000000 := by
          have h1 := cntG_len (G' ++ [f])
          rw [List.length_append, List.length_singleton] at h1
          have h2 := HLG.out
          omega
        obtain ⟨hpf, hdf, hcf, hqf⟩ := HALL.out f (by simp)
        have hpf1 := HH.out.at hpf HBE.out
        have HPF1 := Lib.hid hpf1
        obtain ⟨pk, ck, c6, -⟩ := hpf1.kids
        have HTE := Lib.hid (fun W (h : wr.grownBy W none) => HTL.out s' f W (HH.out.grown _ _ _ HPS.out h) (by have := HBB.out; have := HBb.out; have := HSR.out; have := h.size; omega) (hpf1.same (Fr2.none (S := fun _ => False) h) (fun _ _ h => h)) hdf hqf (next_mono HH.out.mono (by rw [HRU.out]; exact HLF.out)))
        have HBR : Hid (B ≤ wr.heap.size) := Lib.hid (by have := HBB.out; have := HBb.out; have := HSR.out; omega)
        have HO1 := Lib.hid hO; have HGB := Lib.hid hgb; have HPOP := Lib.hid hpop; have HPFW := Lib.hid hpf; have HDF := Lib.hid hdf; have HCF := Lib.hid hcf; have HQF := Lib.hid hqf
        have hfgl : f.g < wr.heap.size := hpf1.2.1
        obtain ⟨n1, hn1⟩ : ∃ n1, L + 1 = n1 := ⟨_, rfl⟩
        have HN1 := Lib.hid hn1
        have hw1 : IntKind.i64.wrap ((n1 : Int) - 1) = (L : Int) := by rw [IntWalk.i64_in _ (by omega)]; omega
        have x1 : (0 : Int) ≤ (L : Int) := by omega
        have x2 : (L : Int) < (n1 : Int) := by omega
        have x3 : decide (L < n1) = true := decide_eq_true (by omega)
        have x4 : decide ((L : Int) < (n1 : Int)) = true := decide_eq_true x2
        have x5 : decide ((0 : Int) < (n1 : Int)) = true := decide_eq_true (by omega)
        have x6 : decide (0 < n1) = true := decide_eq_true (by omega)
        rw [hn1] at HO1 ⊢
        clear hcf hqf
        obtain ⟨fg, hfg⟩ : ∃ fg, f.g = fg := ⟨_, rfl⟩
        obtain ⟨fo, hfo⟩ : ∃ fo, f.o = fo := ⟨_, rfl⟩
        obtain ⟨fd, hfd⟩ : ∃ fd, f.d = fd := ⟨_, rfl⟩
        obtain ⟨kn, hkn⟩ : ∃ kn, (kidsE f.x).length = kn := ⟨_, rfl⟩
        have HFG := Lib.hid hfg; have HFO := Lib.hid hfo; have HFD := Lib.hid hfd; have HKN := Lib.hid hkn

        rw [hfg, hfo] at a0 HTE
        rw [hfd] at a1 HTE hdf
        rw [hfg, hfo, hkn] at c6
        rw [hfg] at hfgl
        rw [hkn] at hdf
        clear hO hpop hgb hga hcs hpf hpf1 hlen hL hn1 hfg hfo hfd hkn HO hcm
        go_wp2_with fail
        go_region_with (first | (go_at_call 24; refine (HTE.out _ (by repeat (first | with_reducible exact gb_refl _ _ | with_reducible refine gb_drew ?_))).mono ?_; rintro e w2 ⟨rfl, hp2, hb2, ho2⟩; have HP2 := Lib.hid hp2; have HB2 : Hid (Below B wr w2) := Lib.hid (Below.trans2 (Below.gb (show wr.grownBy _ none from (by repeat (first | with_reducible exact gb_refl _ _ | with_reducible refine gb_drew ?_))) HBR.out) hb2); have HO2 : Hid (OKept b wr w2) := Lib.hid ((OKept.none (show wr.grownBy _ none from (by repeat (first | with_reducible exact gb_refl _ _ | with_reducible refine gb_drew ?_)))).trans ho2); clear hp2 hb2 ho2))
        all_goals
          clear a0 a1 c6 HTE hfgl
          have hok := HO1.out.okept HO2.out (by decide) HBB.out
          have HOK := Lib.hid hok
          obtain ⟨a0, a1, a2, hgs, hcn, -⟩ := OwnG.top2 hok
          have hl0 : (G'.map rowF).length = L := by rw [List.length_map]; exact HLG.out
          rw [hl0] at a0 a1 hcn
          rw [HFG.out, HFO.out] at a0
          rw [HFD.out] at a1
          have hpf2 := HH.out.at HPF1.out HB2.out
          have HPF2 := Lib.hid hpf2
          obtain ⟨pk2, ck2, c6, -⟩ := hpf2.kids
          have hfgl := hpf2.2.1
          rw [HFG.out, HFO.out, HKN.out] at c6
          rw [HFG.out] at hfgl
          have HBE2 := Lib.hid (Below.trans2 HBE.out HB2.out)
          have HSR2 : Hid (base ≤ w2.heap.size) := Lib.hid (Nat.le_trans HSR.out HB2.out.size)
          have x7 : (n1 : Int) ≤ (c : Int) := by have := HN1.out; omega
          have x8 : n1 ≤ c := by have := HN1.out; omega
          have x9 : L ≤ c := by omega
          clear hok hpf2 hl0 HO1 HPF1 HBE HSR HPS HO2 HB2 HBR
          go_wp2_with fail
          go_quiet (fail)
          have hgd := gb_drewN (gb_refl w2 none) nq
          have HOK := Lib.hid (HOK.out.kept hgd); have HP2 := Lib.hid (HH.out.grown _ _ _ HP2.out hgd)
          have HPF2 : Hid (PAtE F (w2.drewN nq) f.g f.o f.x) := Lib.hid (HPF2.out.same (Fr2.none (S := fun _ => False) hgd) (fun _ _ h => h))
          have HBE2 := Lib.hid (Below.trans2 HBE2.out (Below.gb hgd (by have := HBB.out; have := HBb.out; have := HSR2.out; omega)))
          have HSR2 : Hid (base ≤ (w2.drewN nq).heap.size) := Lib.hid HSR2.out
          have a0 : (w2.drewN nq).cell? ⟨ga, L * 2, none⟩ = some (.pointer (some ⟨fg, fo, none⟩)) := a0
          have a1 : (w2.drewN nq).cell? ⟨ga, L * 2 + 1, none⟩ = some (.int .i64 (fd : Int)) := a1
          have a2 : ∀ j, (w2.drewN nq).frozen? ⟨ga, j, none⟩ = false := a2
          have hgs : ga < (w2.drewN nq).heap.size := hgs
          have hfgl : fg < (w2.drewN nq).heap.size := hfgl
          have c6 : (w2.drewN nq).cell? ⟨fg, fo + 6, none⟩ = some (.slice pk2 kn ck2) := c6
          clear hgd
          generalize w2.drewN nq = w3 at *
          by_cases hd : fd = kn
          · have e1 : (fd == kn) = true := by rw [hd]; simp
            have e1' : ((fd : Int) == (kn : Int)) = true := by rw [hd]; simp
            have HDN := Lib.hid hd
            clear hd
            have hpop2 := HOK.out.pop.2.1
            have hll : (G'.map rowF).length = L := by rw [List.length_map]; exact HLG.out
            rw [hll] at hpop2
            have HPO2 := Lib.hid hpop2
            have hfd : f.d = (kidsE f.x).length := by rw [HFD.out, HKN.out]; exact HDN.out
            have HR2 : Hid (runG st G' (st s' f.x fd) = fin) := Lib.hid (by
              have h := HRU.out
              rw [runG_snoc, (rsF_done st hfd _).1] at h
              rw [← HFD.out]; exact h)
            have HCG : Hid (cntG G' + 1 ≤ gk) := Lib.hid (by
              have h := cntG_snoc G' f
              rw [(rsF_done st hfd s').2] at h; omega)
            clear hpop2 hll hfd HOK HRU a0 a1 a2 c6
            go_wp2_with fail
            go_roundg (cntG G')
            case measure => have := HCG.out; omega
            case rel => exact ⟨G', _, Nat.le_refl _, by have := HCG.out; omega, HPO2, HP2, HR2, Lib.hid (fun f' hf' => HALL.out f' (List.mem_append_left _ hf')), HBE2, HSR2⟩
          · have e1 : (fd == kn) = false := beq_eq_false_iff_ne.2 hd
            have e1' : ((fd : Int) == (kn : Int)) = false := beq_eq_false_iff_ne.2 (by omega)
            have hlt : fd < kn := by omega
            clear hd
            obtain ⟨kx, hkx⟩ : ∃ kx, (kidsE f.x)[f.d]? = some kx := ⟨(kidsE f.x)[f.d]'(by rw [HKN.out, HFD.out]; exact hlt), List.getElem?_eq_getElem _⟩
            obtain ⟨pk3, ck3, c63, hkd3⟩ := (HPFW.out).kids
            obtain ⟨pk4, ck4, c64, hkd4⟩ := HPF2.out.kids
            rw [HFG.out, HFO.out, HKN.out] at c64
            have hpe : pk4 = pk2 := by
              have h := c64.symm.trans c6
              injection h with h; injection h with h1 h2 h3
            obtain ⟨gk', ok', hpk, hka⟩ := hkd4 f.d kx hkx
            have hkaW : PAtE F W gk' (ok' + f.d * 8) kx := by
              obtain ⟨g9, o9, hp9, hk9⟩ := hkd3 f.d kx hkx
              have hc9 := (HPFW.out).kids
              have c9 : w3.cell? ⟨f.g, f.o + 6, none⟩ = some (.slice pk3 (kidsE f.x).length ck3) := by
                rw [World.cell?_of_block (w := W) (HBE2.out.block f.g (HH.out.below _ (HPFW.out).1))]; exact c63
              rw [HFG.out, HFO.out, HKN.out] at c9
              have h := c9.symm.trans c64
              injection h with h; injection h with h1 h2 h3
              rw [h1, hpk] at hp9
              injection hp9 with hp9; injection hp9 with hp9 hp10
              subst hp9; subst hp10
              exact hk9
            rw [hpe] at hpk
            subst hpk
            rw [HFD.out] at hkaW
            have y2 : (fd : Int) < (kn : Int) := by omega
            have y3 : decide (fd < kn) = true := decide_eq_true hlt
            have y4 : decide ((fd : Int) < (kn : Int)) = true := decide_eq_true y2
            have y1 : (0 : Int) ≤ (fd : Int) := by omega
            have hkl : kn ≤ 1000000 := by
              have h1 := kids_count (kidsE f.x)
              have h2 : cntK (kidsE f.x) ≤ cntE f.x := by cases f.x with | mk op nm md nu ys ks ps => simp only [cntE, kidsE]; omega
              have h3 := HCF.out
              rw [← HKN.out]; omega
            have hck : cntE kx ≤ 1000000 := by
              have h1 := kid_size _ _ _ hkx
              have h2 : cntK (kidsE f.x) ≤ cntE f.x := by cases f.x with | mk op nm md nu ys ks ps => simp only [cntE, kidsE]; omega
              have h3 := HCF.out
              omega
            have HCKX := Lib.hid hck; have HKX := Lib.hid hkx
            clear hck hkx
            have hw2 : IntKind.i64.wrap ((fd : Int) + 1) = ((fd + 1 : Nat) : Int) := by rw [IntWalk.i64_in _ (by omega)]; omega
            have HKA := Lib.hid hkaW
            clear hkd3 hkd4 c63 c64 hpe hka hkaW
            go_wp2_with fail
            go_quiet (fail)
            have hgd := gb_drewN (gb_refl w3 none) nq
            have HOK := Lib.hid (HOK.out.kept hgd); have HP2 := Lib.hid (HH.out.grown _ _ _ HP2.out hgd)
            have HPF2 : Hid (PAtE F (w3.drewN nq) f.g f.o f.x) := Lib.hid (HPF2.out.same (Fr2.none (S := fun _ => False) hgd) (fun _ _ h => h))
            have HBE2 := Lib.hid (Below.trans2 HBE2.out (Below.gb hgd (by have := HBB.out; have := HBb.out; have := HSR2.out; omega)))
            have HSR2 : Hid (base ≤ (w3.drewN nq).heap.size) := Lib.hid HSR2.out
            have a0 : (w3.drewN nq).cell? ⟨ga, L * 2, none⟩ = some (.pointer (some ⟨fg, fo, none⟩)) := a0
            have a1 : (w3.drewN nq).cell? ⟨ga, L * 2 + 1, none⟩ = some (.int .i64 (fd : Int)) := a1
            have a2 : ∀ j, (w3.drewN nq).frozen? ⟨ga, j, none⟩ = false := a2
            have hgs : ga < (w3.drewN nq).heap.size := hgs
            have hfgl : fg < (w3.drewN nq).heap.size := hfgl
            clear hgd c6
            generalize w3.drewN nq = w4 at *
            have h5 := OwnG.last2 (u := .int .i64 ((fd + 1 : Nat) : Int)) rfl HOK.out
            have hll : (G'.map rowF).length = L := by rw [List.length_map]; exact HLG.out
            rw [hll] at h5
            rw [HFG.out, HFO.out] at h5
            have HO5 := Lib.hid h5.1; have HG5 := Lib.hid h5.2
            have HP5 : Hid (P (st s' f.x fd) (w4.setCell ⟨ga, L * 2 + 1, none⟩ (.int .i64 ((fd + 1 : Nat) : Int)))) := Lib.hid (by
              obtain ⟨hgb1, cs, hcs⟩ := HOK.out.blk
              exact HH.out.placed _ _ _ ga cs HP2.out h5.2 hcs (by have := HBB.out; omega))
            have HLN : Hid ((G'.map rowF ++ [[Value.pointer (some ⟨fg, fo, none⟩), Value.int .i64 ((fd + 1 : Nat) : Int)]]).length = n1) := Lib.hid (by rw [List.length_append, hll]; exact HN1.out)
            have HLM : Hid ((G'.map rowF ++ [[Value.pointer (some ⟨fg, fo, none⟩), Value.int .i64 ((fd + 1 : Nat) : Int)]]).length ≤ 1000000) := Lib.hid (by rw [HLN.out]; have := HN1.out; omega)
            obtain ⟨fd1, hfd1⟩ : ∃ fd1, fd + 1 = fd1 := ⟨_, rfl⟩
            have HFD1 := Lib.hid hfd1
            rw [hfd1] at hw2 HO5 HG5 HP5 HLN HLM
            clear h5 hll hfd1
            have HKAD : Hid (PAtE F W gk' (ok' + fd * 8) kx) := HKA
            obtain ⟨ko, hko⟩ : ∃ ko, ok' + fd * 8 = ko := ⟨_, rfl⟩
            rw [hko] at HKAD ⊢
            clear hko HKA
            have HSE : Hid ((w4.setCell ⟨ga, L * 2 + 1, none⟩ (.int .i64 (fd1 : Int))).heap.size = w4.heap.size) := Lib.hid (by simp [World.setCell])
            have HBK : Hid (((w4.setCell ⟨ga, L * 2 + 1, none⟩ (.int .i64 (fd1 : Int))).alloc (.cells #[.pointer (some ⟨gk', ko, none⟩), .int .i64 0] 112)).heap[w4.heap.size]? = some (.cells #[.pointer (some ⟨gk', ko, none⟩), .int .i64 0] 112 (0, 0))) := Lib.hid (by
              have h := heap_alloc_new (w4.setCell ⟨ga, L * 2 + 1, none⟩ (.int .i64 (fd1 : Int))) (.cells #[.pointer (some ⟨gk', ko, none⟩), .int .i64 0] 112)
              rw [HSE.out] at h; exact h)
            have HSA : Hid (((w4.setCell ⟨ga, L * 2 + 1, none⟩ (.int .i64 (fd1 : Int))).alloc (.cells #[.pointer (some ⟨gk', ko, none⟩), .int .i64 0] 112)).heap.size = w4.heap.size + 1) := Lib.hid (by
              have h := HSE.out
              simp [h])
            go_wp2_with (at_builtin; go_loud (refine wpList_appGl (s := 2) (t := 113) (T := 112) (by decide) Tryz.underlying113 infoP rfl (by omega) rfl _ _ rfl base (G'.map rowF ++ [[Value.pointer (some ⟨fg, fo, none⟩), Value.int .i64 (fd1 : Int)]]) [.pointer (some ⟨gk', ko, none⟩), .int .i64 0] rfl (fun u hu => by simp at hu; rcases hu with rfl | rfl <;> rfl) (.slice (some ⟨ga, 0, none⟩) n1 c) rfl (OwnG.kept HO5.out (World.grownBy_alloc _ _ none)) w4.heap.size _ rfl HBK.out rfl HLM.out (by rw [HSA.out]; have := HSR2.out; omega) (w4.heap.size + 1) HSA.out ?_))
            intro g9 cap9 w9 hO9 hg9 hl9
            have hwb : w4.grownBy (w4.setCell ⟨ga, L * 2 + 1, none⟩ (.int .i64 (fd1 : Int))) (some ga) := HG5.out
            have hgab : base ≤ ga := HOK.out.blk.1
            have hb9 : Below B w4 w9 := by
              have h1 : Below B w4 (w4.setCell ⟨ga, L * 2 + 1, none⟩ (.int .i64 (fd1 : Int))) := (Fr2.of hwb (S := fun k => ga = k) (fun k e => by injection e)).below (by have := HBB.out; have := HBb.out; have := HSR2.out; omega) (fun k e => by have := HBB.out; have := HBb.out; omega)
              have h2 : Below B (w4.setCell ⟨ga, L * 2 + 1, none⟩ (.int .i64 (fd1 : Int))) ((w4.setCell ⟨ga, L * 2 + 1, none⟩ (.int .i64 (fd1 : Int))).alloc (.cells #[.pointer (some ⟨gk', ko, none⟩), .int .i64 0] 112)) := Below.gb (World.grownBy_alloc _ _ none) (by rw [HSE.out]; have := HBB.out; have := HBb.out; have := HSR2.out; omega)
              exact Below.trans2 h1 (Below.trans2 h2 ((Fr2.of hg9 (S := fun k => (Value.slice (some ⟨ga, 0, none⟩) n1 c).ownBlock = some k) (fun k e => e)).below (by rw [HSA.out]; have := HBB.out; have := HBb.out; have := HSR2.out; omega) (fun k e => by have e : ga = k := Option.some.inj (show some ga = some k from e); have := HBB.out; have := HBb.out; omega)))
            have hP9 : P (st s' f.x fd) w9 := by
              obtain ⟨hgb1, cs, hcs⟩ := HO5.out.blk
              exact HH.out.placed _ _ _ ga cs (HH.out.grown _ _ _ HP5.out (World.grownBy_alloc _ _ none)) (show _ from hg9) (bx (World.grownBy_alloc _ _ none) hcs) (by have := HBB.out; omega)
            have hs9 : base ≤ w9.heap.size := by have h1 := hg9.size; rw [HSA.out] at h1; have := HSR2.out; omega
            have HB9 := Lib.hid (Below.trans2 HBE2.out hb9); have HP9 := Lib.hid hP9; have HS9 := Lib.hid hs9
            have HO9 : Hid (OwnG 2 112 w9 base (.slice (some ⟨g9, 0, none⟩) (G'.length + 1 + 1) cap9) ((G' ++ [{ f with d := fd1 }, ⟨kx, 0, gk', ko⟩]).map rowF)) := Lib.hid (by
              rw [List.map_append]
              have e : [{ f with d := fd1 }, (⟨kx, 0, gk', ko⟩ : Fm)].map rowF = [[Value.pointer (some ⟨fg, fo, none⟩), Value.int .i64 (fd1 : Int)], [Value.pointer (some ⟨gk', ko, none⟩), Value.int .i64 0]] := by
                simp only [List.map_cons, List.map_nil, rowF]
                rw [HFG.out, HFO.out]; rfl
              rw [e]; exact hO9)
            have hrk := rsF_kid st HKX.out s' gk' ko
            have HRU9 : Hid (runG st (G' ++ [{ f with d := fd1 }, ⟨kx, 0, gk', ko⟩]) (st s' f.x fd) = fin) := Lib.hid (by
              have h := HRU.out
              rw [runG_snoc, hrk.1] at h
              have e : G' ++ [{ f with d := fd1 }, (⟨kx, 0, gk', ko⟩ : Fm)] = (G' ++ [{ f with d := fd1 }]) ++ [⟨kx, 0, gk', ko⟩] := by simp
              rw [e, runG_snoc, runG_snoc, ← HFD1.out, ← HFD.out]; exact h)
            have HCG9 : Hid (cntG (G' ++ [{ f with d := fd1 }, ⟨kx, 0, gk', ko⟩]) + 1 ≤ gk) := Lib.hid (by
              have h1 := cntG_snoc G' f
              rw [hrk.2] at h1
              have e : G' ++ [{ f with d := fd1 }, (⟨kx, 0, gk', ko⟩ : Fm)] = (G' ++ [{ f with d := fd1 }]) ++ [⟨kx, 0, gk', ko⟩] := by simp
              have h2 := cntG_snoc (G' ++ [{ f with d := fd1 }]) ⟨kx, 0, gk', ko⟩
              have h3 := cntG_snoc G' { f with d := fd1 }
              rw [e, h2, h3]
              rw [HFD.out, HFD1.out] at h1
              omega)
            have HALL9 : Hid (∀ f' ∈ G' ++ [{ f with d := fd1 }, ⟨kx, 0, gk', ko⟩], PAtE F W f'.g f'.o f'.x ∧ f'.d ≤ (kidsE f'.x).length ∧ cntE f'.x ≤ 1000000 ∧ QQ f'.x) := Lib.hid (fun f' hf' => by
              rcases List.mem_append.1 hf' with h | h
              · exact HALL.out f' (List.mem_append_left _ h)
              · rcases List.mem_cons.1 h with h | h
                · subst h
                  exact ⟨HPFW.out, by show fd1 ≤ (kidsE f.x).length; rw [HKN.out, ← HFD1.out]; omega, HCF.out, HQF.out⟩
                · rcases List.mem_cons.1 h with h | h
                  · subst h; exact ⟨HKAD.out, Nat.zero_le _, HCKX.out, HH.out.kids _ _ HQF.out (List.mem_of_getElem? HKX.out)⟩
                  · cases h)
            clear hO9 hg9 hl9 hwb hgab hb9 hP9 hs9 hrk HO5 HG5 HP5 HLN HLM HBK HSA HSE a0 a1 a2
            go_wp2_with fail
            go_roundg (cntG (G' ++ [{ f with d := fd1 }, ⟨kx, 0, gk', ko⟩]))
            case measure => have := HCG9.out; omega
            case rel => exact ⟨_, _, Nat.le_refl _, by have := HCG9.out; omega, HO9, HP9, HRU9, HALL9, HB9, HS9⟩
end Go.Proofs.YtddccnpohpaofaaGreatDoor
