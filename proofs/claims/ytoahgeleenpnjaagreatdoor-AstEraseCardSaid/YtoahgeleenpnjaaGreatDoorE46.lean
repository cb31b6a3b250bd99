/- A definition, dumped behind what a builder holds. -/
import Derived.Test.YtoahgeleenpnjaaGreatDoorE45
import Derived.Test.YtoahgeleenpnjaaGreatDoorE24
set_option linter.unusedVariables false
set_option linter.unusedSimpArgs false
namespace Go.Proofs.YtoahgeleenpnjaaGreatDoor
open Go.RowKit

theorem Ps_below {F : Nat → Prop} {w w' : World} {B : Nat} {pp : Option Addr} {prow : List (List Value)} {ps : List Fx} (hF : ∀ k, F k → k < B) (hg : GAt 5 w pp prow) (hls : PsAt F w ps prow) (ha : ps ≠ [] → ∃ a, pp = some a ∧ F a.block) (h : Below B w w') : GAt 5 w' pp prow ∧ PsAt F w' ps prow := by
  have hS : ∀ k, F k → ¬ (B ≤ k) := fun k hk e => by have := hF k hk; omega
  exact ⟨gat_sameG (Ps_len hls) hg ha (Fr2.ofBelow h) hS, Ps_same (Fr2.ofBelow h) hS hls⟩
/-- The cells of a parameter in a row, and its clause. -/
theorem parx_cells {F : Nat → Prop} {w : World} {pp : Option Addr} {rows : List (List Value)} {ps : List Fx} (hg : GAt 5 w pp rows) (hls : PsAt F w ps rows) {j : Nat} {f : Fx} (hk : ps[j]? = some f) :
    ∃ (z : Option Addr) (c g off : Nat) (cr : List (List Value)), pp = some ⟨g, off, none⟩ ∧ g < w.heap.size ∧ GAt 8 w z cr ∧ LsE F w f.cl cr ∧ (f.cl ≠ [] → ∃ a, z = some a ∧ F a.block) ∧
      w.cell? ⟨g, off + j * 5, none⟩ = some (.string ⟨f.nm.toArray⟩) ∧ w.cell? ⟨g, off + j * 5 + 1, none⟩ = some (.int .i64 (f.base : Int)) ∧ w.cell? ⟨g, off + j * 5 + 2, none⟩ = some (.slice z f.cl.length c) ∧ w.cell? ⟨g, off + j * 5 + 3, none⟩ = some (.int .i64 (f.ps : Int)) ∧ w.cell? ⟨g, off + j * 5 + 4, none⟩ = some (.int .i64 f.bare) := by
  obtain ⟨qx, hqx, hP⟩ := Ps_get hls hk
  obtain ⟨g, off, rfl, hgl, hc⟩ := hg.resolve_left (fun e => by rw [e] at hqx; simp at hqx)
  obtain ⟨z, c, cr, rfl, h1, h2, h3⟩ := hP
  have hc := hc j _ hqx
  have c0 := hc 0 _ rfl
  rw [Nat.add_zero] at c0
  exact ⟨z, c, g, off, cr, rfl, hgl, h1, h2, h3, c0, hc 1 _ rfl, hc 2 _ rfl, hc 3 _ rfl, hc 4 _ rfl⟩
theorem nbDef : (62 : TypeId) ≠ 5 := by decide
theorem nbPar : (73 : TypeId) ≠ 5 := by decide

set_option maxRecDepth 100000 in
set_option maxHeartbeats 16000000 in
theorem defDump_c (F : Nat → Prop) (B b : Nat) (hF : ∀ k, F k → k < B) (s : List UInt8) (d : Dx) (q : List Value) (w : World) (hp : PD B b s w) (hx : DAt F w d q) (hd : DBe d) (hl : Room s (dmpD d).length) :
    Calls Tryz.prog 30 #[.agg q.toArray, .pointer (some ⟨b, 0, none⟩)] w (WrPost B b (s ++ dmpD d) w) := by
  obtain ⟨pp, np, cp, prow, pc, nc, cc, qb, rfl, hR, hE, hnp, hga, hPs, hpa⟩ := hx
  obtain ⟨pc', cc', crow, hq1, hcg, hcl, hca⟩ := hR
  injection hq1 with _ hq1; injection hq1 with _ hq1; injection hq1 with hq1 _; injection hq1 with hq2 hq3 hq4
  subst hq2 hq3 hq4
  obtain ⟨o9, p9, a9, b9, s9, y9, z9, z9', n9, c9, n9', c9', rfl⟩ := hE.form
  subst hnp
  -- what lies below stays
  have HK := Lib.hid (fun (W : World) (h : Below B w W) => Ps_below hF hga hPs hpa h)
  have HKC := Lib.hid (fun (W : World) (h : Below B w W) => (show GAt 8 W pc crow ∧ LsE F W d.res.cl crow from ⟨gat_same (Ls_len hcl) hcg (fun h0 => hca (List.length_pos_iff.1 h0)) (Fr2.ofBelow h) (fun k hk e => by have := hF k hk; have e : B ≤ k := e; omega), LsE.same (Fr2.ofBelow h) (fun k hk e => by have := hF k hk; have e : B ≤ k := e; omega) hcl⟩))
  have HKE := Lib.hid (fun (W : World) (h : Below B w W) => EAt.same (Fr2.ofBelow h) (fun k hk e => by have := hF k hk; have e : B ≤ k := e; omega) hE)
  have HTYR := Lib.hid (fun (t : List UInt8) (W : World) (h1 : Below B w W) (h2 : PD B b t W) (h3 : Room t (dmpTy d.res.base d.res.cl).length) => dumpTyped_c F B b hF t d.res.base d.res.cl pc cc crow W h2 hd.res.base (HKC.out W h1).1 (HKC.out W h1).2 hca hd.res.cls (by have := hd.res.one; omega) h3)
  have HTYP := Lib.hid (fun (f : Fx) (hf : f ∈ d.ps) (z : Option Addr) (c : Nat) (cr : List (List Value)) (t : List UInt8) (W : World) h4 h5 h6 (h2 : PD B b t W) (h3 : Room t (dmpTy f.base f.cl).length) => dumpTyped_c F B b hF t f.base f.cl z c cr W h2 (hd.pars f hf).base h4 h5 h6 (hd.pars f hf).cls (by have := (hd.pars f hf).one; omega) h3)
  have HDB := Lib.hid (fun (W : World) (h : Below B w W) => Dump_c2 F d.body _ W (HKE.out W h) hd.body.small hd.body.cnt (by have := hd.body.len; omega))
  have HF := Lib.hid hF
  have HDD := Lib.hid hd
  have HP := Lib.hid hp
  have HR : Hid (s.length + ((if d.pub = true then [112, 117, 98, 32] else [] : List UInt8).length + (d.res.nm.length + ((d.ps.flatMap dmpF).length + (1 + ((dmpTy d.res.base d.res.cl).length + (3 + ((dmpE d.body).length + 1))))))) ≤ 100000000000000) := Lib.hid (by
    unfold Room dmpD at hl
    simp only [List.length_cons, List.length_append, List.length_nil] at hl ⊢
    omega)
  have HDE : Hid (dmpD d = (if d.pub = true then [112, 117, 98, 32] else []) ++ (d.res.nm ++ (d.ps.flatMap dmpF ++ (32 :: (dmpTy d.res.base d.res.cl ++ ([32, 61, 32] ++ (dmpE d.body ++ [10]))))))) := Lib.hid rfl
  have HBW : Hid (B ≤ w.heap.size) := Lib.hid hp.2
  have HBL : Hid (b < w.heap.size) := Lib.hid (pd_lt hp)
  have HNL : Hid (d.res.nm.length ≤ 2000) := Lib.hid hd.res.name
  obtain ⟨n, hn⟩ : ∃ n, d.ps.length = n := ⟨_, rfl⟩
  have HN := Lib.hid hn
  have hps : n ≤ 10000 := by rw [← hn]; exact hd.few
  obtain ⟨m, hm⟩ : ∃ m, d.res.cl.length = m := ⟨_, rfl⟩
  simp only [List.cons_append, List.nil_append]
  unfold strV
  obtain ⟨yn, hyn⟩ : ∃ y : ByteArray, (⟨d.res.nm.toArray⟩ : ByteArray) = y := ⟨_, rfl⟩
  have HYN : Hid (yn.data.toList = d.res.nm) := Lib.hid (by rw [← hyn])
  rw [hyn, hn]
  rw [hm] at HTYR ⊢
  obtain ⟨pub, hpub⟩ : ∃ pub, d.pub = pub := ⟨_, rfl⟩
  rw [hpub] at HR HDE ⊢
  obtain ⟨pl, hpl⟩ : ∃ pl, (if pub = true then [112, 117, 98, 32] else [] : List UInt8) = pl := ⟨_, rfl⟩
  have HPL := Lib.hid hpl
  rw [hpl] at HR HDE
  clear hp hcg hcl hca hE hga hPs hpa hd hl hn hm hyn hF hpub hpl HKE HKC
  go_enter Tryz.func30, Tryz.ntmps30
  go_upto_if 7 with fail
  obtain ⟨W, b0, hW, e0, hB0, hgW⟩ := box0 w (.cells #[.bool pub, .string yn, .slice pp n cp, .int .i64 (d.res.base : Int), .slice pc m cc, .int .i64 o9, .string a9, .string b9, .bool s9, .slice z9 n9 c9, .bool y9, .slice z9' n9' c9', .int .i64 p9, .int .i64 (d.res.ps : Int), .int .i64 d.res.bare] 62)
  have HB0 := Lib.hid hB0
  have HP1 := Lib.hid (HP.out.gb hgW)
  have HBE := Lib.hid (Below.gb hgW HBW.out)
  have HOK := Lib.hid (OKept.none (b := b) hgW)
  have HNE : Hid (b0 ≠ b) := Lib.hid (by have := HBL.out; omega)
  clear hB0 hgW
  try rw [← hW]
  try rw [e0]
  clear e0 hW
  obtain ⟨r0, r1, r2, r3, r4, r5, r6, r7, r8, r9, r10, r11, r12, r13, r14, r15⟩ := cells15c HB0.out
  have HP0 := HP1
  cases pub
  case' false =>
    have HP1 : Hid (PD B b (s ++ pl) W) := Lib.hid (by rw [← HPL.out]; simpa using HP0.out)
    clear HP0
    go_wp2_with fail
  case' true =>
    go_wp2_with fail
    refine (put_c B b s _ W HP0.out (by unfold Room; have := HR.out; rw [← HPL.out] at this; have e : (⟨#[112, 117, 98, 32]⟩ : ByteArray).size = 4 := rfl; simp at this; omega)).mono ?_
    rintro e W' ⟨rfl, hp2, hb2, ho2⟩
    have HP1 : Hid (PD B b (s ++ pl) W') := Lib.hid (by rw [← HPL.out]; exact hp2)
    have HBE := Lib.hid (Below.trans2 HBE.out hb2)
    have HOK := Lib.hid (OKept.trans HOK.out ho2)
    have HB0 := Lib.hid (ho2 _ _ _ HB0.out nbDef HNE.out)
    clear hp2 hb2 ho2 r0 r1 r2 r3 r4 r5 r6 r7 r8 r9 r10 r11 r12 r13 r14 r15 HP0
    obtain ⟨r0, r1, r2, r3, r4, r5, r6, r7, r8, r9, r10, r11, r12, r13, r14, r15⟩ := cells15c HB0.out
    go_wp2_with fail
  all_goals
    refine (put_c B b _ yn _ HP1.out (by unfold Room; have := HR.out; have := sz_list HYN.out; simp only [List.length_append]; omega)).mono ?_
    rintro e W2 ⟨rfl, hp2, hb2, ho2⟩
    have HP2 : Hid (PD B b (s ++ pl ++ d.res.nm) W2) := Lib.hid (by rw [← HYN.out]; exact hp2)
    have HBE2 := Lib.hid (Below.trans2 HBE.out hb2)
    have HOK2 := Lib.hid (OKept.trans HOK.out ho2)
    have HB02 := Lib.hid (ho2 _ _ _ HB0.out nbDef HNE.out)
    clear hp2 hb2 ho2 r0 r1 r2 r3 r4 r5 r6 r7 r8 r9 r10 r11 r12 r13 r14 r15 HP1 HB0 HBE HOK
    obtain ⟨r0, r1, r2, r3, r4, r5, r6, r7, r8, r9, r10, r11, r12, r13, r14, r15⟩ := cells15c HB02.out
    go_wp2_with fail
    clear r0 r1 r2 r3 r4 r5 r6 r7 r8 r9 r10 r11 r12 r13 r14 r15
    go_loopg [17] n (fun gk iv wr => ∃ j : Nat, j ≤ n ∧ iv = .int .i64 (j : Int) ∧ n - j ≤ gk ∧ gk ≤ n ∧ Hid (PD B b (s ++ pl ++ d.res.nm ++ (d.ps.take j).flatMap dmpF) wr) ∧ Hid (Below B w wr) ∧ Hid (OKept b W2 wr))
    case atStart => exact ⟨0, Nat.zero_le _, rfl, by omega, Nat.le_refl _, Lib.hid (by rw [List.take_zero, List.flatMap_nil, List.append_nil]; exact HP2.out), HBE2, Lib.hid (fun g cs T h1 _ _ => h1)⟩
    case round =>
      obtain ⟨j, hj, rfl, hgk, hgm, HPr, HBr, HOr⟩ := hrel
      have HB0r := Lib.hid (HOr.out _ _ _ HB02.out nbDef HNE.out)
      have HBL2 : Hid (b < wr.heap.size ∧ B ≤ wr.heap.size) := Lib.hid ⟨pd_lt HPr.out, HPr.out.2⟩
      by_cases hlj : j < n
      · obtain ⟨f, hf⟩ : ∃ f, d.ps[j]? = some f := ⟨d.ps[j]'(by rw [HN.out]; exact hlj), List.getElem?_eq_getElem _⟩
        obtain ⟨z, zc, g, off, cr, rfl, hgl, hzg, hzl, hza, c0, c1, c2, c3, c4⟩ := parx_cells (HK.out wr HBr.out).1 (HK.out wr HBr.out).2 hf
        have hfm := List.mem_of_getElem? hf
        have HTY := Lib.hid (fun t W h4 h5 => HTYP.out f hfm z zc cr t W h4 h5 hza)
        have HFB := Lib.hid (HDD.out.pars f hfm)
        have HZ := Lib.hid (fun (W : World) (h : Below B wr W) => (show GAt 8 W z cr ∧ LsE F W f.cl cr from ⟨gat_same (Ls_len hzl) hzg (fun h0 => hza (List.length_pos_iff.1 h0)) (Fr2.ofBelow h) (fun k hk e => by have := HF.out k hk; have e : B ≤ k := e; omega), LsE.same (Fr2.ofBelow h) (fun k hk e => by have := HF.out k hk; have e : B ≤ k := e; omega) hzl⟩))
        have HNX : Hid ((d.ps.take (j + 1)).flatMap dmpF = (d.ps.take j).flatMap dmpF ++ dmpF f) := Lib.hid (flat_next dmpF hf)
        have HRX : Hid (((d.ps.take j).flatMap dmpF).length + (1 + (f.nm.length + (dmpTy f.base f.cl).length)) ≤ (d.ps.flatMap dmpF).length) := Lib.hid (by
          have h1 := flat_take dmpF d.ps (j + 1)
          rw [HNX.out, List.length_append] at h1
          have h2 : (dmpF f).length = 1 + (f.nm.length + (dmpTy f.base f.cl).length) := by unfold dmpF; simp only [List.length_cons, List.length_append]; omega
          omega)
        obtain ⟨yf, hyf⟩ : ∃ y : ByteArray, (⟨f.nm.toArray⟩ : ByteArray) = y := ⟨_, rfl⟩
        have HYF : Hid (yf.data.toList = f.nm) := Lib.hid (by rw [← hyf])
        rw [hyf] at c0
        have hys := sz_list HYF.out
        have hk1 : ¬ 9223372036854775807 < 1 + yf.size := by have := HFB.out.name; omega
        obtain ⟨fl, hfl⟩ : ∃ fl, f.cl.length = fl := ⟨_, rfl⟩
        rw [hfl] at c2 HTY
        have i1 : (0 : Int) ≤ (j : Int) := by omega
        have i2 : (j : Int) < (n : Int) := by omega
        have i3 : decide (j < n) = true := decide_eq_true hlj
        have i4 : decide ((j : Int) < (n : Int)) = true := decide_eq_true i2
        clear hf hfm hzg hzl hza hyf hys hfl
        go_wp2_with fail
        obtain ⟨WX, b5, hWX, e5, hB5, hgX⟩ := box0 wr (.cells #[.string yf, .int .i64 (f.base : Int), .slice z fl zc, .int .i64 (f.ps : Int), .int .i64 f.bare] 73)
        have HB5 := Lib.hid hB5; have HGX := Lib.hid hgX; have HE5 := Lib.hid e5
        clear hB5 hgX c0 c1 c2 c3 c4 hgl
        try rw [← hWX]
        try rw [e5]
        clear e5 hWX
        refine (put_c B b _ _ WX (HPr.out.gb HGX.out) (by
          unfold Room
          have h1 := HR.out; have h2 := HRX.out; have h3 := sz_list HYF.out
          simp only [List.length_append, ByteArray.size_append]
          have e : (⟨#[32]⟩ : ByteArray).size = 1 := rfl
          omega)).mono ?_
        rintro e W3 ⟨rfl, hp3, hb3, ho3⟩
        have HP3 : Hid (PD B b (s ++ pl ++ d.res.nm ++ (d.ps.take j).flatMap dmpF ++ (32 :: f.nm)) W3) := Lib.hid (by
          have e : ((⟨#[32]⟩ : ByteArray) ++ yf).data.toList = 32 :: f.nm := by simp [app_list, HYF.out]
          rw [← e]; exact hp3)
        have HBX : Hid (Below B wr W3) := Lib.hid (Below.trans2 (Below.gb HGX.out HBL2.out.2) hb3)
        have HOX : Hid (OKept b wr W3) := Lib.hid (OKept.trans (OKept.none HGX.out) ho3)
        have HB53 := Lib.hid (ho3 _ _ _ HB5.out nbPar (by have := HE5.out; have := HBL2.out.1; omega))
        obtain ⟨c0, c1, c2, c3, c4, c5⟩ := cells5c HB53.out
        clear hp3 hb3 ho3 hk1
        go_wp2_with fail
        refine (HTY.out _ W3 (HZ.out W3 HBX.out).1 (HZ.out W3 HBX.out).2 HP3.out (by
          unfold Room
          have h1 := HR.out; have h2 := HRX.out
          simp only [List.length_append, List.length_cons]
          omega)).mono ?_
        rintro e W4 ⟨rfl, hp4, hb4, ho4⟩
        have HP4 : Hid (PD B b (s ++ pl ++ d.res.nm ++ (d.ps.take (j + 1)).flatMap dmpF) W4) := Lib.hid (by
          rw [HNX.out]
          have e : s ++ pl ++ d.res.nm ++ ((d.ps.take j).flatMap dmpF ++ dmpF f) = s ++ pl ++ d.res.nm ++ (d.ps.take j).flatMap dmpF ++ (32 :: f.nm) ++ dmpTy f.base f.cl := by simp [dmpF]
          rw [e]; exact hp4)
        have HB4 : Hid (Below B w W4) := Lib.hid (Below.trans2 HBr.out (Below.trans2 HBX.out hb4))
        have HO4 : Hid (OKept b W2 W4) := Lib.hid (OKept.trans HOr.out (OKept.trans HOX.out ho4))
        have hjb : n ≤ 10000 := hps
        have hw9 : IntKind.i64.wrap ((j : Int) + 1) = ((j + 1 : Nat) : Int) := by rw [IntWalk.i64_in _ (by omega)]; omega
        clear hp4 hb4 ho4 c0 c1 c2 c3 c4 c5
        go_wp2_with fail
        go_roundg (n - (j + 1))
        case measure => omega
        case rel => exact ⟨j + 1, by omega, by first | rfl | go_num, Nat.le_refl _, by omega, HP4, HB4, HO4⟩
      · obtain rfl : j = n := by omega
        have hpr := HPr.out
        rw [List.take_of_length_le (by have := HN.out; omega)] at hpr
        have HPE := Lib.hid hpr
        clear hpr HPr
        go_wp2_with fail
        refine (put_c B b _ _ wr HPE.out (by
          unfold Room
          have h1 := HR.out
          simp only [List.length_append]
          have e : (⟨#[32]⟩ : ByteArray).size = 1 := rfl
          omega)).mono ?_
        rintro e W5 ⟨rfl, hp5, hb5, ho5⟩
        have HP5 : Hid (PD B b (s ++ pl ++ d.res.nm ++ d.ps.flatMap dmpF ++ [32]) W5) := Lib.hid hp5
        have HB5 : Hid (Below B w W5) := Lib.hid (Below.trans2 HBr.out hb5)
        have HO5 : Hid (OKept b W2 W5) := Lib.hid (OKept.trans HOr.out ho5)
        have HB05 := Lib.hid (ho5 _ _ _ HB0r.out nbDef HNE.out)
        obtain ⟨r0, r1, r2, r3, r4, r5, r6, r7, r8, r9, r10, r11, r12, r13, r14, r15⟩ := cells15c HB05.out
        clear hp5 hb5 ho5
        go_wp2_with fail
        refine (HTYR.out _ W5 HB5.out HP5.out (by
          unfold Room
          have h1 := HR.out
          simp only [List.length_append, List.length_cons, List.length_nil]
          omega)).mono ?_
        rintro e W6 ⟨rfl, hp6, hb6, ho6⟩
        have HP6 := Lib.hid hp6
        have HB6 : Hid (Below B w W6) := Lib.hid (Below.trans2 HB5.out hb6)
        have HO6 : Hid (OKept b W2 W6) := Lib.hid (OKept.trans HO5.out ho6)
        have HB06 := Lib.hid (ho6 _ _ _ HB05.out nbDef HNE.out)
        clear hp6 hb6 ho6 r0 r1 r2 r3 r4 r5 r6 r7 r8 r9 r10 r11 r12 r13 r14 r15
        obtain ⟨r0, r1, r2, r3, r4, r5, r6, r7, r8, r9, r10, r11, r12, r13, r14, r15⟩ := cells15c HB06.out
        go_wp2_with fail
        refine (HDB.out W6 HB6.out).mono ?_
        rintro e W7 ⟨⟨y, rfl, hy⟩, hg7⟩
        have HY := Lib.hid hy
        have HP7 := Lib.hid (HP6.out.gb hg7)
        have HB7 : Hid (Below B w W7) := Lib.hid (Below.trans2 HB6.out (Below.gb hg7 HP6.out.2))
        have HO7 : Hid (OKept b W2 W7) := Lib.hid (OKept.trans HO6.out (OKept.none hg7))
        have hyz := sz_list hy
        have hyb : (dmpE d.body).length ≤ 100000 := HDD.out.body.len
        have k1 : ¬ 9223372036854775807 < 3 + y.size := by omega
        have k2 : ¬ 9223372036854775807 < 3 + y.size + 1 := by omega
        clear hy hg7 hyz hyb r0 r1 r2 r3 r4 r5 r6 r7 r8 r9 r10 r11 r12 r13 r14 r15
        go_wp2_with fail
        refine (put_c B b _ _ W7 HP7.out (by
          unfold Room
          have h1 := HR.out; have h2 := sz_list HY.out
          simp only [List.length_append, List.length_cons, List.length_nil, ByteArray.size_append]
          have e : (⟨#[32, 61, 32]⟩ : ByteArray).size = 3 := rfl
          have e2 : (⟨#[10]⟩ : ByteArray).size = 1 := rfl
          omega)).mono ?_
        rintro e W8 ⟨rfl, hp8, hb8, ho8⟩
        have HP8 : Hid (PD B b (s ++ dmpD d) W8) := Lib.hid (by
          have e : ((⟨#[32, 61, 32]⟩ : ByteArray) ++ y ++ ⟨#[10]⟩).data.toList = [32, 61, 32] ++ (dmpE d.body ++ [10]) := by simp [app_list, HY.out]
          rw [e] at hp8
          have e2 : s ++ dmpD d = s ++ pl ++ d.res.nm ++ d.ps.flatMap dmpF ++ [32] ++ dmpTy d.res.base d.res.cl ++ ([32, 61, 32] ++ (dmpE d.body ++ [10])) := by rw [HDE.out]; simp
          rw [e2]; exact hp8)
        have HB8 : Hid (Below B w W8) := Lib.hid (Below.trans2 HB7.out hb8)
        have HO8 : Hid (OKept b w W8) := Lib.hid (OKept.trans HOK2.out (OKept.trans HO7.out ho8))
        clear hp8 hb8 ho8 k1 k2
        go_wp2_with fail
        refine bodyPost_end (results_none rfl _ _ _) rfl ?_
        exact ⟨rfl, HP8.out, HB8.out, HO8.out⟩
end Go.Proofs.YtoahgeleenpnjaaGreatDoor
