/- An expression made one's own, walked. -/
import Derived.Deep.CutBlock
import Derived.Deep.RegionLaw
import Derived.Deep.RegionHeld3
import Derived.Test.YtoahgeleenpnjaaGreatDoorE16
import Derived.Test.YtoahgeleenpnjaaGreatDoorE11
set_option linter.unusedVariables false
set_option linter.unusedSimpArgs false
namespace Go.Proofs.YtoahgeleenpnjaaGreatDoor
open Go.RowKit

def OwnPost (F : Nat → Prop) (x : Ex) (w : World) (e : Ending) (w' : World) : Prop := w.grownBy w' none ∧ ∃ q, e = .returned (.agg q.toArray) ∧ EAt (fun k => F k ∨ w.heap.size ≤ k) w' x q
theorem offb_ne {F : Nat → Prop} {base k : Nat} (h : OffB F base k) : k ≠ base + 1 := by
  rcases h with h | h
  · have := h.2; omega
  · exact h.2
theorem offb_new {F : Nat → Prop} {base k : Nat} (h : OffB F base k) : F k ∨ base ≤ k := by
  rcases h with h | h
  · exact .inl h.1
  · exact .inr h.1
theorem list_lastP (l : List Pd) : l = [] ∨ ∃ l' p, l = l' ++ [p] := by
  rcases List.eq_nil_or_concat l with h | ⟨l', p, h⟩
  · exact .inl h
  · exact .inr ⟨l', p, by simpa using h⟩

theorem three3 (w : World) (A B C : Obj) : ∃ W : World, W = ((w.alloc A).alloc B).alloc C ∧ W.heap[w.heap.size]? = some A ∧ W.heap[w.heap.size + 1]? = some B ∧ W.heap[w.heap.size + 1 + 1]? = some C ∧ w.grownBy W none ∧ W.heap.size = w.heap.size + 3 := by
  have h1 := heap_alloc_new w A
  have h2 := heap_alloc_new (w.alloc A) B
  have h3 := heap_alloc_new ((w.alloc A).alloc B) C
  have g2 := World.grownBy_alloc (w.alloc A) B none
  have g3 := World.grownBy_alloc ((w.alloc A).alloc B) C none
  simp only [World.size_alloc] at h2 h3
  exact ⟨_, rfl, bx (gb_trans g2 g3) h1, bx g3 h2, h3, gb_trans (World.grownBy_alloc w A none) (gb_trans g2 g3), by simp⟩

theorem own_off {s B g n c : Nat} {T T2 : TypeId} {w w' : World} {p : Option Addr} {l : List (List Value)} {cs : Array Value} (h : OwnG s T w B (.slice p n c) l) (hf : Fr2 (fun k => k = g) w w') (hg : w.heap[g]? = some (.cells cs T2 (0, 0))) (ht : T ≠ T2) : OwnG s T w' B (.slice p n c) l :=
  ⟨⟨h.1.1, h.1.2.imp id fun ⟨k, cap, cur, e, hb1, hh, r⟩ => ⟨k, cap, cur, e, hb1, (hf.block k (hlt hh) (fun e => by have e : k = g := e; subst e; rw [hh] at hg; injection hg with hg; injection hg with _ hg; exact ht hg)).trans hh, r⟩⟩, h.2⟩
theorem set_ot {w : World} {g i j : Nat} {u v : Value} (h : j ≠ i) (hc : w.cell? ⟨g, j, none⟩ = some v) : (w.setCell ⟨g, i, none⟩ u).cell? ⟨g, j, none⟩ = some v := by
  rw [World.cell?_setCell_other _ _ _ _ (fun e => h (by simp at e))]; exact hc
theorem two_set {base g o : Nat} {a b : World} {u v : Value} (hg : a.grownBy b none) (hD : IsD base a g) (c1 : a.cell? ⟨g, o + 1, none⟩ = some u) (c2 : a.cell? ⟨g, o + 2, none⟩ = some v) :
    Agr base (fun _ _ => False) a ((b.setCell ⟨g, o + 1, none⟩ u).setCell ⟨g, o + 2, none⟩ v) ∧ Fr2 (fun k => k = g) a ((b.setCell ⟨g, o + 1, none⟩ u).setCell ⟨g, o + 2, none⟩ v) := by
  have h0 := Agr.gb (base := base) (fun _ _ => False) hg
  have h1 := set_same (i := o + 1) (u := u) (h0.isd _ hD) (hg.cell c1 (by simp))
  have hD1 := set_isd (i := o + 1) (u := u) (h0.isd _ hD) _ (h0.isd _ hD)
  have h2 := set_same (i := o + 2) (u := v) hD1 (h1.cell _ _ _ (h0.isd _ hD) (fun e => e) (hg.cell c2 (by simp)))
  exact ⟨(h0.trans h1 _ (fun _ _ _ e => e) (fun _ _ _ e => e)).trans h2 _ (fun _ _ _ e => e) (fun _ _ _ e => e), ((Fr2.none hg).trans (set_fr b g (o + 1) u)).trans (set_fr _ g (o + 2) v)⟩

set_option maxRecDepth 100000 in
set_option maxHeartbeats 16000000 in
theorem own_c (F : Nat → Prop) (x : Ex) (q : List Value) (w : World) (hx : EAt F w x q) (hsz : sizE x ≤ 1000000) (hal : allS x) :
    Calls Tryz.prog 65 #[.agg q.toArray] w (OwnPost F x w) := by
  have hbd : EAt (OldB F w.heap.size) w x q := hx.bound.mono (fun k h => h)
  obtain ⟨o9, p9, a9, b9, s9, y9, z9, z9', n9, c9, n9', c9', rfl⟩ := hx.form
  have HBD := Lib.hid hbd; have HSZ := Lib.hid hsz
  have HCL := Lib.hid (fun (y : ByteArray) (W : World) h => Clone_c y W h)
  have HAL := Lib.hid hal
  clear hx hbd hsz hal
  obtain ⟨base, hbase⟩ : ∃ base, w.heap.size = base := ⟨_, rfl⟩
  have HBA := Lib.hid hbase
  rw [hbase] at HBD
  clear hbase
  go_enter Tryz.func65, Tryz.ntmps65
  go_wp2_with fail
  have HOW0 := Lib.hid (OwnG.new (s := 1) (T := 111) ((w.alloc (.cells #[.int .i64 o9, .string a9, .string b9, .bool s9, .slice z9 n9 c9, .bool y9, .slice z9' n9' c9', .int .i64 p9] 60)).alloc (.cells #[.int .i64 0, .string ⟨#[]⟩, .string ⟨#[]⟩, .bool false, .slice none 0 0, .bool false, .slice none 0 0, .int .i64 0] 60)) (base + 2) [.pointer (some ⟨w.heap.size, 0, none⟩)] rfl (fun u hu => by simp at hu; subst hu; rfl) (by simp; have := HBA.out; omega))
  obtain ⟨W, hW, hB1, hB2, hB3, hgW, hsW⟩ := three3 w (.cells #[.int .i64 o9, .string a9, .string b9, .bool s9, .slice z9 n9 c9, .bool y9, .slice z9' n9' c9', .int .i64 p9] 60) (.cells #[.int .i64 0, .string ⟨#[]⟩, .string ⟨#[]⟩, .bool false, .slice none 0 0, .bool false, .slice none 0 0, .int .i64 0] 60) (.cells #[.pointer (some ⟨w.heap.size, 0, none⟩)] 111)
  have HOW : Hid (OwnG 1 111 W (base + 2) (.slice (some ⟨base + 1 + 1, 0, none⟩) 1 1) ([(base, 0, x)].map stRow)) := Lib.hid (by
    have := HOW0.out
    simp only [World.size_alloc] at this
    rw [hW]
    rw [HBA.out] at this ⊢
    exact this)
  rw [← hW]
  rw [HBA.out] at hB1 hB2 hB3 hsW ⊢
  have HGW := Lib.hid hgW
  have HCP : Hid (CpI F base base x [(base, 0, x)] W) := Lib.hid (CpI.start (Nat.le_refl _) hB1 (HBD.out.kept hgW))
  have HB2 := Lib.hid hB2
  have HSW := Lib.hid hsW
  clear hW hB1 hB2 hB3 hgW hsW HOW0 HBD
  go_loopg [3] (szP [(base, 0, x)]) (fun gk av wr => ∃ P : List Pd, szP P ≤ gk ∧ gk ≤ 1000000 ∧ Hid (OwnG 1 111 wr (base + 2) av (P.map stRow)) ∧ Hid (CpI F base base x P wr) ∧ Hid (∀ p ∈ P, allS p.2.2 ∧ p.1 ≠ base + 1) ∧ Hid (w.grownBy wr none) ∧ Hid (wr.heap[base + 1]? = some (.cells #[.int .i64 0, .string ⟨#[]⟩, .string ⟨#[]⟩, .bool false, .slice none 0 0, .bool false, .slice none 0 0, .int .i64 0] 60 (0, 0))) ∧ Hid (base + 2 ≤ wr.heap.size))
  case atStart => exact ⟨[(base, 0, x)], Nat.le_refl _, by simp only [szP]; have := HSZ.out; omega, HOW, HCP, Lib.hid (fun p hp => by simp at hp; subst hp; exact ⟨HAL.out, by simp only; omega⟩), HGW, HB2, Lib.hid (by have := HSW.out; omega)⟩
  case round =>
    obtain ⟨P, hszp, hgk, HO, HC, HAP, HG, HR2, HSB⟩ := hrel
    rcases list_lastP P with rfl | ⟨P', ⟨g, o, y⟩, rfl⟩
    · have hv : ∃ p c, u3 = .slice p 0 c := by
        obtain ⟨p, c, e, -⟩ := HO.out.is
        exact ⟨p, c, e⟩
      obtain ⟨p, c, rfl⟩ := hv
      obtain ⟨-, hlb, q, hq8, hcq, hEq⟩ := HC.out.done
      obtain ⟨o0, p0, a0, b0, s0, y0, z0, z0', n0, c0, n0', c0', rfl⟩ := hEq.form
      have HEQ := Lib.hid hEq
      have d0 := hcq 0 _ rfl
      have d1 := hcq 1 _ rfl
      have d2 := hcq 2 _ rfl
      have d3 := hcq 3 _ rfl
      have d4 := hcq 4 _ rfl
      have d5 := hcq 5 _ rfl
      have d6 := hcq 6 _ rfl
      have d7 := hcq 7 _ rfl
      simp only [Nat.zero_add] at d0 d1 d2 d3 d4 d5 d6 d7
      obtain ⟨r0, r1, r2, r3, r4, r5, r6, r7, r8⟩ := cells8x HR2.out
      have hb2 : base + 1 < wr.heap.size := hlt HR2.out
      clear hcq hq8 hEq hszp
      go_wp2_with fail
      obtain ⟨hfb, hff⟩ := put8c HR2.out (.int .i64 o0) (.string a0) (.string b0) (.bool s0) (.slice z0 n0 c0) (.bool y0) (.slice z0' n0' c0') (.int .i64 p0)
      obtain ⟨k0, k1, k2, k3, k4, k5, k6, k7, -⟩ := cells8x hfb
      have hgf := Fr2.after HG.out hff (fun j hj => by have e : j = base + 1 := hj; have := HBA.out; omega)
      have heq := (EAt.same hff (fun k hk e => offb_ne hk e) HEQ.out).mono (F' := fun k => F k ∨ w.heap.size ≤ k) (fun k hk => by rw [HBA.out]; exact offb_new hk)
      have HP : Hid (OwnPost F x w (.returned (.agg #[.int .i64 o0, .string a0, .string b0, .bool s0, .slice z0 n0 c0, .bool y0, .slice z0' n0' c0', .int .i64 p0])) _) := Lib.hid ⟨hgf, _, rfl, heq⟩
      refine bodyPost_ret (v := .agg #[.int .i64 o0, .string a0, .string b0, .bool s0, .slice z0 n0 c0, .bool y0, .slice z0' n0' c0', .int .i64 p0]) (by simp [results, Tryz.results65, go_sem, k0, k1, k2, k3, k4, k5, k6, k7]) rfl HP.out
    · have hO : OwnG 1 111 wr (base + 2) u3 (P'.map stRow ++ [stRow (g, o, y)]) := by have := HO.out; rwa [List.map_append] at this
      obtain ⟨L, hL⟩ : ∃ L, (P'.map stRow).length = L := ⟨_, rfl⟩
      obtain ⟨p, c, rfl, hga, hnc, hcm, -⟩ := hO.is
      obtain ⟨-, hpop, ga, rfl⟩ := hO.pop
      obtain ⟨g2, o2, hp2, hgl, hcs⟩ := hga.resolve_left (by simp)
      injection hp2 with hp2; injection hp2 with hp2 hp3; subst hp2 hp3
      have a0 : wr.cell? ⟨ga, L, none⟩ = some (.pointer (some ⟨g, o, none⟩)) := by
        have := hcs L (stRow (g, o, y)) (by rw [← hL]; simp) 0 _ rfl
        simpa using this
      have hlen : (P'.map stRow ++ [stRow (g, o, y)]).length = L + 1 := by rw [List.length_append, hL]; rfl
      rw [hlen] at hnc ⊢
      rw [hL] at hpop
      have HLG : Hid (P'.length = L) := Lib.hid (by rw [← hL, List.length_map])
      have hLb : L + 1 ≤ 1000000 := by
        have h1 := szP_len (P' ++ [(g, o, y)])
        rw [List.length_append, List.length_singleton] at h1
        have h2 := HLG.out
        omega
      have hSZ2 : szP P' + sizE y ≤ gk := by rw [szP_append] at hszp; simp only [szP] at hszp; omega
      have HSZ2 := Lib.hid hSZ2
      obtain ⟨ay, by_, pk, ck, rows, c1, c2, c6, hD, hgr, hls, hwid⟩ := pend_cells HC.out
      obtain ⟨hay, hgb1⟩ := HAP.out (g, o, y) (by simp)
      have HD := Lib.hid hD; have HGR := Lib.hid hgr; have HLS := Lib.hid hls; have HWI := Lib.hid hwid; have HAY := Lib.hid hay; have HGB1 := Lib.hid hgb1
      have hgs : g < wr.heap.size := hD.lt
      have hsm : ay.size ≤ 1000000 ∧ by_.size ≤ 1000000 := by
        obtain ⟨-, q, -, hcq, hEq⟩ := HC.out.pend (g, o, y) (by simp)
        cases y with
        | mk op nm md nu ys ks ps =>
          simp only [EAt] at hEq
          obtain ⟨s, pw, nw, cw, pk2, ck2, rows2, rfl, -⟩ := hEq
          have e1 := hcq 1 _ rfl
          have e2 := hcq 2 _ rfl
          rw [show wr.cell? ⟨(g, o, Ex.mk op nm md nu ys ks ps).1, (g, o, Ex.mk op nm md nu ys ks ps).2.1 + 1, none⟩ = wr.cell? ⟨g, o + 1, none⟩ from rfl, c1] at e1
          rw [show wr.cell? ⟨(g, o, Ex.mk op nm md nu ys ks ps).1, (g, o, Ex.mk op nm md nu ys ks ps).2.1 + 2, none⟩ = wr.cell? ⟨g, o + 2, none⟩ from rfl, c2] at e2
          injection e1 with e1; injection e1 with e1
          injection e2 with e2; injection e2 with e2
          simp only [allS, smallE] at hay
          have h1 := hay.1.2.1; have h2 := hay.1.2.2.1
          rw [e1, e2, ← list_len, ← list_len]
          exact ⟨h1, h2⟩
      have HSM : Hid (ay.size ≤ 281474976710656 ∧ by_.size ≤ 281474976710656) := Lib.hid (by omega)
      have HC12 := Lib.hid (And.intro c1 c2)
      obtain ⟨hgb0, csD, hdb⟩ := hD
      have HDB := Lib.hid hdb; have HGB0 := Lib.hid hgb0
      obtain ⟨n1, hn1⟩ : ∃ n1, L + 1 = n1 := ⟨_, rfl⟩
      have HN1 := Lib.hid hn1
      have hw1 : IntKind.i64.wrap ((n1 : Int) - 1) = (L : Int) := by rw [IntWalk.i64_in _ (by omega)]; omega
      have x1 : (0 : Int) ≤ (L : Int) := by omega
      have x2 : (L : Int) < (n1 : Int) := by omega
      have x3 : decide (L < n1) = true := decide_eq_true (by omega)
      have x4 : decide ((L : Int) < (n1 : Int)) = true := decide_eq_true x2
      have x5 : decide ((0 : Int) < (n1 : Int)) = true := decide_eq_true (by omega)
      have x6 : decide (0 < n1) = true := decide_eq_true (by omega)
      have x7 : (n1 : Int) ≤ (c : Int) := by omega
      have x8 : n1 ≤ c := by omega
      have x9 : L ≤ c := by omega
      have x10 : (L : Int) ≤ (c : Int) := by omega
      have HPOP := Lib.hid hpop; have HLB := Lib.hid hLb
      rw [hn1]
      clear hO hpop hga hcs hlen hL hn1 hcm HO hdb hgb0 hgr hls hwid hay hgb1 hsm hLb hSZ2 hszp hnc
      go_wp2_with fail
      go_cut [] (fun wx => Hid (Agr base (fun _ _ => False) wr wx ∧ Fr2 (fun k => k = g) wr wx))
      case first =>
        go_region_held3 (fun w' => w'.cell? ⟨g, o + 1, none⟩ = some (.string ay) ∧ w'.cell? ⟨g, o + 2, none⟩ = some (.string by_))
          (first | with_reducible exact ⟨c1, c2⟩ | exact ⟨set_it c1, set_ot (by omega) c2⟩ | exact ⟨set_ot (by omega) (set_it c1), set_it (set_ot (by omega) c2)⟩ | go_keep)
          (first
            | (go_at_call 34; have HGA := HG2; refine (HCL.out _ _ (by with_reducible exact HSM.out.2)).mono ?_; rintro e w3 ⟨rfl, hg3⟩; have HG3 := Lib.hid (gb_trans HG2.out (gb_trans (show w2.grownBy _ none from (by repeat (first | with_reducible exact gb_refl _ _ | with_reducible refine gb_drew ?_))) hg3)); have c1 := HG3.out.cell HC12.out.1 (by simp); have c2 := HG3.out.cell HC12.out.2 (by simp); have hfz : ∀ j, w3.frozen? ⟨g, j, none⟩ = false := fun j => frozen_none (bx HG3.out HDB.out) j; have hgs3 : g < w3.heap.size := hlt (bx HG3.out HDB.out); clear hg3)
            | (go_at_call 34; refine (HCL.out _ _ (by with_reducible exact HSM.out.1)).mono ?_; rintro e w2 ⟨rfl, hg2⟩; have HG2 := Lib.hid (gb_trans (show wr.grownBy _ none from (by repeat (first | with_reducible exact gb_refl _ _ | with_reducible refine gb_drew ?_))) hg2); have c1 := HG2.out.cell c1 (by simp); have c2 := HG2.out.cell c2 (by simp); clear hg2))
        all_goals
          go_wp2_with fail
          go_meet
          exact Lib.hid (two_set HG3.out ⟨HGB0.out, _, HDB.out⟩ HC12.out.1 HC12.out.2)
      case rest =>
        obtain ⟨hag, hfr⟩ := hcut.out
        have HCW := Lib.hid (HC.out.keep hag)
        have HGC := Lib.hid (Fr2.after HG.out hfr (fun j hj => by have e : j = g := hj; have := HBA.out; have := HGB0.out; omega))
        have HR2C : Hid (wc.heap[base + 1]? = some (.cells #[.int .i64 0, .string ⟨#[]⟩, .string ⟨#[]⟩, .bool false, .slice none 0 0, .bool false, .slice none 0 0, .int .i64 0] 60 (0, 0))) := Lib.hid ((hfr.block _ (hlt HR2.out) (fun e => HGB1.out (show g = base + 1 from e.symm))).trans HR2.out)
        have HSBC : Hid (base + 2 ≤ wc.heap.size) := Lib.hid (Nat.le_trans HSB.out hfr.size)
        have HPC : Hid (OwnG 1 111 wc (base + 2) (.slice (some ⟨ga, 0, none⟩) L c) (P'.map stRow)) := Lib.hid (own_off HPOP.out hfr HDB.out (by decide))
        clear hcut hag hfr c1 c2 c6 a0 HC HG HR2 HSB HPOP HC12 HDB HGR HLS HWI HSM HD
        obtain ⟨ay, by_, pk, ck, rows, c1, c2, c6, hD, hgr, hls, hwid⟩ := pend_cells HCW.out
        obtain ⟨kn, hkn⟩ : ∃ kn, (kidsE y).length = kn := ⟨_, rfl⟩
        rw [hkn] at c6
        have HKN := Lib.hid hkn
        have hgs : g < wc.heap.size := hD.lt
        obtain ⟨-, csD, hdb⟩ := hD
        have hfz : ∀ j, wc.frozen? ⟨g, j, none⟩ = false := fun j => frozen_none hdb j
        have HDB := Lib.hid hdb; have HGR := Lib.hid hgr; have HLS := Lib.hid hls; have HWI := Lib.hid hwid
        have hrl : rows.length = kn := by rw [Ls_len hls, hkn]
        have hkb : kn ≤ 1000000 := by
          have h1 := szP_len (kidsP 0 (kidsE y))
          rw [kidsP_len, szP_kids, hkn] at h1
          have h2 := sizE_kids y; have h3 := HSZ2.out
          omega
        have HKL : Hid (kn ≤ 1000000 ∧ rows.length = kn) := Lib.hid ⟨hkb, hrl⟩
        have HBW : Hid (base ≤ wc.heap.size) := Lib.hid (by have := HSBC.out; omega)
        have HNI := Lib.hid (OwnG.nil 8 60 wc wc.heap.size)
        clear hdb hgr hls hwid hkn hrl hkb c1 c2
        go_wp2_with (at_builtin; go_loud (refine wpList_appGs (s := 8) (t := 55) (T := 60) (by decide) Tryz.underlying55 infoEx rfl (by omega) rfl _ _ rfl wc.heap.size [] rows HWI.out (.slice none 0 0) rfl HNI.out pk kn ck rfl HKL.out.2 HGR.out (by simp) HKL.out.1 (Nat.le_refl _) ?_))
        intro ph nh ch w5 hnh hO5 hbe5 hg5
        have hg5 : wc.grownBy w5 none := hg5
        obtain ⟨ks, hks⟩ : ∃ ks, kidsE y = ks := ⟨_, rfl⟩
        have HN5 : Hid (nh = kn) := Lib.hid (by simpa using hnh)
        have hnk : nh = kn := HN5.out
        subst hnk
        obtain ⟨h, hph, hcp⟩ := own_step HCW.out HGB1.out HSBC.out hg5 (by simpa using hO5) HLS.out ⟨HGB0.out, csD, HDB.out⟩ c6 HKN.out.symm
        have HPH := Lib.hid hph; have HCPN := Lib.hid hcp
        have c6' := hg5.cell c6 (by simp)
        have hfz5 : ∀ j, w5.frozen? ⟨g, j, none⟩ = false := fun j => frozen_none (bx hg5 HDB.out) j
        have hgs5 : g < w5.heap.size := hlt (bx hg5 HDB.out)
        have HG5 := Lib.hid hg5
        clear hph hcp hnh hO5 hbe5 hg5 c6 hfz hgs
        go_wp2_with fail
        obtain ⟨W6, hW6⟩ : ∃ W6, w5.setCell ⟨g, o + 6, none⟩ (.slice ph nh ch) = W6 := ⟨_, rfl⟩
        have hfs := set_fr w5 g (o + 6) (.slice ph nh ch)
        have hD6 := set_isd (i := o + 6) (u := .slice ph nh ch) (base := base) ⟨HGB0.out, csD, bx HG5.out HDB.out⟩ g ⟨HGB0.out, csD, bx HG5.out HDB.out⟩
        have hc6 := set_it (u := .slice ph nh ch) c6'
        have hP6 := own_off (HPC.out.kept HG5.out) hfs (bx HG5.out HDB.out) (by decide)
        rw [hW6] at HCPN hfs hD6 hc6 hP6 ⊢
        have HG6 := Lib.hid (Fr2.after (gb_trans HGC.out HG5.out) hfs (fun j hj => by have e : j = g := hj; have := HBA.out; have := HGB0.out; omega))
        have HR6 : Hid (W6.heap[base + 1]? = some (.cells #[.int .i64 0, .string ⟨#[]⟩, .string ⟨#[]⟩, .bool false, .slice none 0 0, .bool false, .slice none 0 0, .int .i64 0] 60 (0, 0))) := Lib.hid ((hfs.block _ (hlt (bx HG5.out HR2C.out)) (fun e => HGB1.out (show g = base + 1 from e.symm))).trans (bx HG5.out HR2C.out))
        have HD6 := Lib.hid (And.intro hD6 hc6); have HP6 := Lib.hid hP6
        have HS6 : Hid (base + 2 ≤ W6.heap.size ∧ (kidsE y ≠ [] → h < W6.heap.size ∧ wc.heap.size ≤ h)) := Lib.hid ⟨Nat.le_trans HSBC.out (Nat.le_trans HG5.out.size hfs.size), fun h0 => ⟨Nat.lt_of_lt_of_le (HPH.out h0).2.2 hfs.size, (HPH.out h0).2.1⟩⟩
        rw [hks] at HKN HCPN HPH HS6
        have HKS := Lib.hid hks
        clear hW6 hfs hD6 hc6 hP6 c6' hfz5 hgs5 hks HCW HGC HR2C HPC HG5 HDB HGR HLS HWI HBW HNI
        go_loopg [3, 50] nh (fun gk2 av iv wr2 => ∃ j : Nat, j ≤ nh ∧ iv = .int .i64 (j : Int) ∧ nh - j ≤ gk2 ∧ gk2 ≤ nh ∧ Hid (OwnG 1 111 wr2 (base + 2) av ((P' ++ (kidsP h ks).take j).map stRow)) ∧ Hid (CpI F base base x (P' ++ kidsP h ks) wr2) ∧ Hid (w.grownBy wr2 none) ∧ Hid (wr2.heap[base + 1]? = some (.cells #[.int .i64 0, .string ⟨#[]⟩, .string ⟨#[]⟩, .bool false, .slice none 0 0, .bool false, .slice none 0 0, .int .i64 0] 60 (0, 0))) ∧ Hid (IsD base wr2 g ∧ wr2.cell? ⟨g, o + 6, none⟩ = some (.slice ph nh ch)) ∧ Hid (base + 2 ≤ wr2.heap.size ∧ (ks ≠ [] → h < wr2.heap.size)))
        case atStart => exact ⟨0, Nat.zero_le _, rfl, by omega, Nat.le_refl _, Lib.hid (by rw [List.take_zero, List.append_nil]; exact HP6.out), HCPN, HG6, HR6, HD6, Lib.hid ⟨HS6.out.1, fun h0 => (HS6.out.2 h0).1⟩⟩
        case round =>
          obtain ⟨j, hj, rfl, hgk2, hgm2, HO2, HC2, HG2, HRR2, HD2, HS2⟩ := hrel
          by_cases hlj : j < nh
          · have hjk : j < ks.length := by have := HKN.out; omega
            obtain ⟨k, hk⟩ : ∃ k, ks[j] = k := ⟨_, rfl⟩
            have HTK : Hid ((kidsP h ks).take (j + 1) = (kidsP h ks).take j ++ [(h, j * 8, k)]) := Lib.hid (by rw [kidsP_take hjk, hk])
            have hne : ks ≠ [] := fun e => by rw [e] at hjk; simp at hjk
            obtain ⟨rfl, -, -⟩ := HPH.out hne
            obtain ⟨p2, c2, rfl, -⟩ := HO2.out.is
            obtain ⟨LS, hLS⟩ : ∃ LS, (P' ++ (kidsP h ks).take j).map stRow = LS := ⟨_, rfl⟩
            have HLS9 := Lib.hid hLS
            have hO2 := HO2.out
            rw [hLS] at hO2 ⊢
            obtain ⟨n2, hn2⟩ : ∃ n2, LS.length = n2 := ⟨_, rfl⟩
            have hnb : n2 ≤ 1000000 := by
              have h1 := szP_len (kidsP h ks)
              rw [kidsP_len, szP_kids] at h1
              have h2 := sizE_kids y; have h3 := HSZ2.out
              rw [HKS.out] at h2
              have h4 := HLG.out; have h5 := szP_len P'
              rw [← hn2, ← hLS, List.length_map, List.length_append, List.length_take, kidsP_len]
              omega
            have HNB := Lib.hid hnb; have HN2 := Lib.hid hn2
            have hgs : g < wr.heap.size := HD2.out.1.lt
            have hhs : h < wr.heap.size := HS2.out.2 hne
            have c6 := HD2.out.2
            have i1 : (0 : Int) ≤ (j : Int) := by omega
            have i2 : (j : Int) < (nh : Int) := by omega
            have i3 : decide (j < nh) = true := decide_eq_true hlj
            have i4 : decide ((j : Int) < (nh : Int)) = true := decide_eq_true i2
            rw [hn2]
            have HO2' : Hid (OwnG 1 111 wr (base + 2) (.slice p2 n2 c2) LS) := Lib.hid (by rw [hn2] at hO2; exact hO2)
            clear hjk hk hne hnb hn2 HO2 hO2 hLS
            go_wp2_with (at_builtin; go_loud (refine wpList_appGg (s := 1) (t := 163) (T := 111) (by decide) Tryz.underlying163 infoPE rfl (by omega) rfl _ _ rfl (base + 2) LS (stRow (h, j * 8, k)) rfl (fun u hu => by simp [stRow] at hu; subst hu; rfl) (.slice p2 n2 c2) rfl HO2'.out _ rfl rfl (by rw [HN2.out]; exact HNB.out) HS2.out.1 _ rfl ?_))
            intro g9 cap9 w9 hO9 hg9
            have hal := World.grownBy_alloc wr (.cells (stRow (h, j * 8, k)).toArray 111) none
            have hOa := HO2'.out.kept hal
            have hag := (Agr.gb (base := base) (fun _ _ => False) hal).trans (agr_row hOa (by omega) (by decide) hg9) (fun _ _ => False) (fun _ _ _ e => e) (fun _ _ _ e => e)
            have HC9 := Lib.hid (HC2.out.keep hag)
            have hfr9 : Fr2 (fun i => (Value.slice p2 n2 c2).ownBlock = some i) (wr.alloc (.cells (stRow (h, j * 8, k)).toArray 111)) w9 := Fr2.of hg9 (fun i e => e)
            have HG9 := Lib.hid (Fr2.after (gb_trans HG2.out hal) hfr9 (fun i hi => by have := (own_is hOa i hi).1; have := HBA.out; omega))
            have HR9 : Hid (w9.heap[base + 1]? = some (.cells #[.int .i64 0, .string ⟨#[]⟩, .string ⟨#[]⟩, .bool false, .slice none 0 0, .bool false, .slice none 0 0, .int .i64 0] 60 (0, 0))) := Lib.hid ((hfr9.block _ (hlt (bx hal HRR2.out)) (fun e => by have := (own_is hOa _ e).1; omega)).trans (bx hal HRR2.out))
            have HD9 := Lib.hid (And.intro (hag.isd _ HD2.out.1) (hag.cell _ _ _ HD2.out.1 (fun e => e) HD2.out.2))
            have HS9 : Hid (base + 2 ≤ w9.heap.size ∧ (ks ≠ [] → h < w9.heap.size)) := Lib.hid ⟨Nat.le_trans HS2.out.1 hag.size, fun h0 => Nat.lt_of_lt_of_le (HS2.out.2 h0) hag.size⟩
            have HO9 : Hid (OwnG 1 111 w9 (base + 2) (.slice (some ⟨g9, 0, none⟩) (n2 + 1) cap9) ((P' ++ (kidsP h ks).take (j + 1)).map stRow)) := Lib.hid (by
              have h9 := hO9
              rw [HN2.out] at h9
              rw [HTK.out, ← List.append_assoc, List.map_append, HLS9.out]
              exact h9)
            rw [HN2.out]
            have hjb := HKL.out.1
            have hw9 : IntKind.i64.wrap ((j : Int) + 1) = ((j + 1 : Nat) : Int) := by rw [IntWalk.i64_in _ (by omega)]; omega
            clear hal hOa hag hfr9 hO9 hg9 HC2 HG2 HRR2 HD2 HO2' c6 hgs hhs
            go_wp2_with fail
            go_roundg (nh - (j + 1))
            case measure => omega
            case rel => exact ⟨j + 1, by omega, by first | rfl | go_num, Nat.le_refl _, by omega, HO9, HC9, HG9, HR9, HD9, HS9⟩
          · obtain rfl : j = nh := by omega
            have hkt : (kidsP h ks).take j = kidsP h ks := List.take_of_length_le (by rw [kidsP_len]; have := HKN.out; omega)
            have HOE := HO2.out
            rw [hkt] at HOE
            have HOE := Lib.hid HOE
            have HSZN : Hid (szP (P' ++ kidsP h ks) < szP P' + sizE y) := Lib.hid (by
              have h2 := sizE_kids y
              rw [HKS.out] at h2
              rw [szP_append, szP_kids]; omega)
            have HAPN : Hid (∀ p ∈ P' ++ kidsP h ks, allS p.2.2 ∧ p.1 ≠ base + 1) := Lib.hid (fun p hp => by
              rcases List.mem_append.1 hp with hp | hp
              · exact HAP.out p (List.mem_append_left _ hp)
              · obtain ⟨j', k, hk, rfl⟩ := kidsP_mem hp
                have hne : ks ≠ [] := fun e => by rw [e] at hk; simp at hk
                refine ⟨allS_kid HAY.out (by rw [HKS.out]; exact List.mem_of_getElem? hk), ?_⟩
                have h1 := (HS6.out.2 hne).2; have h2 := HSBC.out
                show h ≠ base + 1
                omega)
            clear hkt
            go_wp2_with fail
            go_roundg (szP (P' ++ kidsP h ks))
            case measure => exact Nat.lt_of_lt_of_le HSZN.out HSZ2.out
            case rel => exact ⟨P' ++ kidsP h ks, Nat.le_refl _, by have := HSZN.out; have := HSZ2.out; omega, HOE, HC2, HAPN, HG2, HRR2, Lib.hid HS2.out.1⟩
end Go.Proofs.YtoahgeleenpnjaaGreatDoor
