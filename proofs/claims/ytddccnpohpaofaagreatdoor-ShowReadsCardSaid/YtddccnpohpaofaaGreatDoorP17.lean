/- Lemmas. -/
import Derived.Test.YtddccnpohpaofaaGreatDoorP15
set_option linter.unusedVariables false
set_option linter.unusedSimpArgs false
namespace Go.Proofs.YtddccnpohpaofaaGreatDoor
open Go.RowKit

set_option maxRecDepth 100000 in
set_option maxHeartbeats 16000000 in
theorem rightAlone_c (F : Nat → Prop) (a : Addr) (op : Int) (nm md : List UInt8) (nu : Int) (ys : Bool) (ks : List Sx) (ps : Int) (q : List Value) (w : World) (hla : LaidE w) (hc : CAt w a q) (hx : SAt F w (.mk op nm md nu ys ks ps) q) (h1 : nm.length ≤ 60000) (h2 : md.length ≤ 60000) (hZ : nu.natAbs < Zd.Lim) (hks : ks.length ≤ 1000000) (hF : ∀ k, F k → k < w.heap.size) (hab : a.block < w.heap.size) :
    Calls Tryz.prog 61 #[.pointer (some a)] w (TruePost (aloneB op nm md nu ys ks.length) w) := by
  have kept : ∀ W, w.grownBy W none → CAt W a q ∧ SAt F W (.mk op nm md nu ys ks ps) q := fun W hg => ⟨hc.same (S := fun _ => False) (Fr2.none hg) (fun h => h), hx.kept hg⟩
  have HC := Lib.hid (fun W (_ : w.grownBy W none) => rightCount_c op ks.length W)
  have HN := Lib.hid (fun W (hg : w.grownBy W none) => rightNames_c F a op nm md nu ys ks ps q W (hla.kept hg) (kept W hg).1 (kept W hg).2 h1 h2)
  have HU := Lib.hid (fun W (hg : w.grownBy W none) => rightNumber_c F a op nm md nu ys ks ps q W (kept W hg).1 (kept W hg).2 hZ)
  simp only [SAt] at hx
  obtain ⟨s, pw, nw, cw, pk, ck, rows, rfl, -⟩ := hx
  obtain ⟨g, off, rfl, hg, hc⟩ := hc
  have c0 := hc 0 _ rfl
  have c4 := hc 5 _ rfl
  have c5 := hc 6 _ rfl
  rw [Nat.add_zero] at c0
  obtain ⟨n, hn⟩ : ∃ n, ks.length = n := ⟨_, rfl⟩
  rw [hn] at HC c5 ⊢
  have hb : aloneB op nm md nu ys n = (inB op n && (namesB op nm md && (numB op nu && (decide (op = 2) || !ys)))) := by
    unfold aloneB inB; simp only [Bool.and_assoc]
  rw [hb]
  obtain ⟨b1, hb1⟩ : ∃ b, inB op n = b := ⟨_, rfl⟩
  obtain ⟨b2, hb2⟩ : ∃ b, namesB op nm md = b := ⟨_, rfl⟩
  obtain ⟨b3, hb3⟩ : ∃ b, numB op nu = b := ⟨_, rfl⟩
  rw [hb1] at HC
  rw [hb2] at HN
  rw [hb3] at HU
  rw [hb1, hb2, hb3]
  have HC0 := Lib.hid c0; have HC4 := Lib.hid c4; have HC5 := Lib.hid c5
  clear hb hb1 hb2 hb3 kept hn hc h1 h2 hZ hla hF hab
  go_enter Tryz.func61, Tryz.ntmps61
  go_wp2_with fail
  obtain ⟨e2, he2⟩ : ∃ e, (op == 2) = e := ⟨_, rfl⟩
  have hd : decide (op = 2) = e2 := by
    rw [← he2]
    by_cases h : op = 2
    · subst h; rfl
    · rw [decide_eq_false h]; exact (beq_eq_false_iff_ne.2 h).symm
  rw [hd]
  clear hd
  have hw : b1 = false ∨ (b1 = true ∧ b2 = false) ∨ (b1 = true ∧ b2 = true ∧ b3 = false) ∨ (b1 = true ∧ b2 = true ∧ b3 = true ∧ e2 = true) ∨ (b1 = true ∧ b2 = true ∧ b3 = true ∧ e2 = false) := by
    cases b1 <;> cases b2 <;> cases b3 <;> cases e2 <;> simp
  rcases hw with rfl | ⟨rfl, rfl⟩ | ⟨rfl, rfl, rfl⟩ | ⟨rfl, rfl, rfl, rfl⟩ | ⟨rfl, rfl, rfl, rfl⟩
  all_goals
    refine wp_region_G (S := fun w' => w'.cell? ⟨g, off, none⟩ = some (.int .i64 op) ∧ w'.cell? ⟨g, off + 5, none⟩ = some (.bool ys) ∧ w'.cell? ⟨g, off + 6, none⟩ = some (.slice pk n ck)) (z := 32) (by kernel_rfl) (by first | with_reducible exact ⟨c0, c4, c5⟩ | go_keep) (fun hHeld => ?_)
    refine wpG_take (i := 0) (by simp only [List.getElem?_toArray, List.getElem?_cons_succ, List.getElem?_cons_zero]; rfl) (by kernel_rfl) (by kernel_rfl) (by kernel_rfl) (by kernel_rfl) (by exact fun _ _ _ h => h) (by rfl) (by intro w hSw; obtain ⟨hS0, hS1, hS2⟩ := hSw; go_simp; try with_reducible rfl) hHeld ?_
    try simp only [Act.put, List.setIfInBounds_toArray, List.set_cons_zero, List.set_cons_succ]
    refine wpG_take (i := 1) (by simp only [List.getElem?_toArray, List.getElem?_cons_succ, List.getElem?_cons_zero]; rfl) (by kernel_rfl) (by kernel_rfl) (by kernel_rfl) (by kernel_rfl) (by exact fun _ _ _ h => h) (by rfl) (by intro w hSw; obtain ⟨hS0, hS1, hS2⟩ := hSw; go_simp; try with_reducible rfl) hHeld ?_
    try simp only [Act.put, List.setIfInBounds_toArray, List.set_cons_zero, List.set_cons_succ]
    refine wpG_take (i := 2) (by simp only [List.getElem?_toArray, List.getElem?_cons_succ, List.getElem?_cons_zero]; rfl) (by kernel_rfl) (by kernel_rfl) (by kernel_rfl) (by kernel_rfl) (by exact fun _ _ _ h => h) (by rfl) (by intro w hSw; obtain ⟨hS0, hS1, hS2⟩ := hSw; go_simp; try with_reducible rfl) hHeld ?_
    try simp only [Act.put, List.setIfInBounds_toArray, List.set_cons_zero, List.set_cons_succ]
    refine wpG_take (i := 3) (by simp only [List.getElem?_toArray, List.getElem?_cons_succ, List.getElem?_cons_zero]; rfl) (by kernel_rfl) (by kernel_rfl) (by kernel_rfl) (by kernel_rfl) (by exact fun _ _ _ h => h) (by rfl) (by intro w hSw; obtain ⟨hS0, hS1, hS2⟩ := hSw; go_simp; try with_reducible rfl) hHeld ?_
    try simp only [Act.put, List.setIfInBounds_toArray, List.set_cons_zero, List.set_cons_succ]
    refine wpG_take (i := 4) (by simp only [List.getElem?_toArray, List.getElem?_cons_succ, List.getElem?_cons_zero]; rfl) (by kernel_rfl) (by kernel_rfl) (by kernel_rfl) (by kernel_rfl) (by exact fun _ _ _ h => h) (by rfl) (by intro w hSw; obtain ⟨hS0, hS1, hS2⟩ := hSw; go_simp; try with_reducible rfl) hHeld ?_
    try simp only [Act.put, List.setIfInBounds_toArray, List.set_cons_zero, List.set_cons_succ]
    refine wpG_take (i := 5) (by simp only [List.getElem?_toArray, List.getElem?_cons_succ, List.getElem?_cons_zero]; rfl) (by kernel_rfl) (by kernel_rfl) (by kernel_rfl) (by kernel_rfl) (by exact fun _ _ _ h => h) (by rfl) (by intro w hSw; obtain ⟨hS0, hS1, hS2⟩ := hSw; go_simp; try with_reducible rfl) hHeld ?_
    try simp only [Act.put, List.setIfInBounds_toArray, List.set_cons_zero, List.set_cons_succ]
    refine wpG_take (i := 6) (by simp only [List.getElem?_toArray, List.getElem?_cons_succ, List.getElem?_cons_zero]; rfl) (by kernel_rfl) (by kernel_rfl) (by kernel_rfl) (by kernel_rfl) (by exact fun _ _ _ h => h) (by rfl) (by intro w hSw; obtain ⟨hS0, hS1, hS2⟩ := hSw; go_simp; try with_reducible rfl) hHeld ?_
    try simp only [Act.put, List.setIfInBounds_toArray, List.set_cons_zero, List.set_cons_succ]
    refine wpG_take (i := 7) (by simp only [List.getElem?_toArray, List.getElem?_cons_succ, List.getElem?_cons_zero]; rfl) (by kernel_rfl) (by kernel_rfl) (by kernel_rfl) (by kernel_rfl) (by exact fun _ _ _ h => h) (by rfl) (by intro w hSw; obtain ⟨hS0, hS1, hS2⟩ := hSw; go_simp; try with_reducible rfl) hHeld ?_
    try simp only [Act.put, List.setIfInBounds_toArray, List.set_cons_zero, List.set_cons_succ]
    refine wpG_take (i := 8) (by simp only [List.getElem?_toArray, List.getElem?_cons_succ, List.getElem?_cons_zero]; rfl) (by kernel_rfl) (by kernel_rfl) (by kernel_rfl) (by kernel_rfl) (by exact fun _ _ _ h => h) (by rfl) (by intro w hSw; obtain ⟨hS0, hS1, hS2⟩ := hSw; go_simp; try with_reducible rfl) hHeld ?_
    try simp only [Act.put, List.setIfInBounds_toArray, List.set_cons_zero, List.set_cons_succ]
    refine wpG_step (i := 9) (by kernel_rfl) (by simp only [List.getElem?_toArray, List.getElem?_cons_succ, List.getElem?_cons_zero]; rfl) (fun K hK => ?_)
    go_simp
    go_at_call 91
    refine (HC.out _ (by repeat (first | with_reducible exact gb_refl _ _ | with_reducible exact HG3.out | with_reducible exact HG2.out | with_reducible exact HG1.out | with_reducible refine gb_drew ?_ | with_reducible refine gb_drewN ?_ _ | with_reducible refine gb_alloc ?_ _))).mono ?_
    rintro e w1 ⟨rfl, hg1⟩
    have HG1 : Hid (w.grownBy w1 none) := Lib.hid (gb_trans (by repeat (first | with_reducible exact gb_refl _ _ | with_reducible exact HG3.out | with_reducible exact HG2.out | with_reducible exact HG1.out | with_reducible refine gb_drew ?_ | with_reducible refine gb_drewN ?_ _ | with_reducible refine gb_alloc ?_ _)) hg1)
    clear hg1
    have c0 := HG1.out.cell HC0.out (by simp)
    have c4 := HG1.out.cell HC4.out (by simp)
    have c5 := HG1.out.cell HC5.out (by simp)
    refine hK.out _ _ (fun _ => (by first | with_reducible exact ⟨c0, c4, c5⟩ | go_keep)) (fun hH => ?_)
    replace hHeld := hH (by decide)
    clear hK hH K
    try simp only [Act.put, List.setIfInBounds_toArray, List.set_cons_zero, List.set_cons_succ]
    refine wpG_step (i := 10) (by kernel_rfl) (by simp only [List.getElem?_toArray, List.getElem?_cons_succ, List.getElem?_cons_zero]; rfl) (fun K hK => ?_)
    go_simp
    refine hK.out _ _ (fun _ => (by first | with_reducible exact ⟨c0, c4, c5⟩ | go_keep)) (fun hH => ?_)
    replace hHeld := hH (by decide)
    clear hK hH K
    try simp only [Act.put, List.setIfInBounds_toArray, List.set_cons_zero, List.set_cons_succ]
    refine wpG_step (i := 11) (by kernel_rfl) (by simp only [List.getElem?_toArray, List.getElem?_cons_succ, List.getElem?_cons_zero]; rfl) (fun K hK => ?_)
    go_simp
    refine hK.out _ _ (fun _ => (by first | with_reducible exact ⟨c0, c4, c5⟩ | go_keep)) (fun hH => ?_)
    replace hHeld := hH (by decide)
    clear hK hH K
    try simp only [Act.put, List.setIfInBounds_toArray, List.set_cons_zero, List.set_cons_succ]
    refine wpG_step (i := 12) (by kernel_rfl) (by simp only [List.getElem?_toArray, List.getElem?_cons_succ, List.getElem?_cons_zero]; rfl) (fun K hK => ?_)
    first
    | (go_simp
       go_at_call 92
       refine (HN.out _ (by repeat (first | with_reducible exact gb_refl _ _ | with_reducible exact HG3.out | with_reducible exact HG2.out | with_reducible exact HG1.out | with_reducible refine gb_drew ?_ | with_reducible refine gb_drewN ?_ _ | with_reducible refine gb_alloc ?_ _))).mono ?_
       rintro e w2 ⟨rfl, hg2⟩
       have HG2 : Hid (w.grownBy w2 none) := Lib.hid (gb_trans (by repeat (first | with_reducible exact gb_refl _ _ | with_reducible exact HG3.out | with_reducible exact HG2.out | with_reducible exact HG1.out | with_reducible refine gb_drew ?_ | with_reducible refine gb_drewN ?_ _ | with_reducible refine gb_alloc ?_ _)) hg2)
       clear hg2
       have c0 := HG2.out.cell HC0.out (by simp)
       have c4 := HG2.out.cell HC4.out (by simp)
       have c5 := HG2.out.cell HC5.out (by simp))
    | go_simp
    refine hK.out _ _ (fun _ => (by first | with_reducible exact ⟨c0, c4, c5⟩ | go_keep)) (fun hH => ?_)
    replace hHeld := hH (by decide)
    clear hK hH K
    try simp only [Act.put, List.setIfInBounds_toArray, List.set_cons_zero, List.set_cons_succ]
    refine wpG_step (i := 13) (by kernel_rfl) (by simp only [List.getElem?_toArray, List.getElem?_cons_succ, List.getElem?_cons_zero]; rfl) (fun K hK => ?_)
    go_simp
    refine hK.out _ _ (fun _ => (by first | with_reducible exact ⟨c0, c4, c5⟩ | go_keep)) (fun hH => ?_)
    replace hHeld := hH (by decide)
    clear hK hH K
    try simp only [Act.put, List.setIfInBounds_toArray, List.set_cons_zero, List.set_cons_succ]
    refine wpG_step (i := 14) (by kernel_rfl) (by simp only [List.getElem?_toArray, List.getElem?_cons_succ, List.getElem?_cons_zero]; rfl) (fun K hK => ?_)
    go_simp
    refine hK.out _ _ (fun _ => (by first | with_reducible exact ⟨c0, c4, c5⟩ | go_keep)) (fun hH => ?_)
    replace hHeld := hH (by decide)
    clear hK hH K
    try simp only [Act.put, List.setIfInBounds_toArray, List.set_cons_zero, List.set_cons_succ]
    refine wpG_step (i := 15) (by kernel_rfl) (by simp only [List.getElem?_toArray, List.getElem?_cons_succ, List.getElem?_cons_zero]; rfl) (fun K hK => ?_)
    go_simp
    refine hK.out _ _ (fun _ => (by first | with_reducible exact ⟨c0, c4, c5⟩ | go_keep)) (fun hH => ?_)
    replace hHeld := hH (by decide)
    clear hK hH K
    try simp only [Act.put, List.setIfInBounds_toArray, List.set_cons_zero, List.set_cons_succ]
    refine wpG_step (i := 16) (by kernel_rfl) (by simp only [List.getElem?_toArray, List.getElem?_cons_succ, List.getElem?_cons_zero]; rfl) (fun K hK => ?_)
    first
    | (go_simp
       go_at_call 93
       refine (HU.out _ (by repeat (first | with_reducible exact gb_refl _ _ | with_reducible exact HG3.out | with_reducible exact HG2.out | with_reducible exact HG1.out | with_reducible refine gb_drew ?_ | with_reducible refine gb_drewN ?_ _ | with_reducible refine gb_alloc ?_ _))).mono ?_
       rintro e w3 ⟨rfl, hg3⟩
       have HG3 : Hid (w.grownBy w3 none) := Lib.hid (gb_trans (by repeat (first | with_reducible exact gb_refl _ _ | with_reducible exact HG3.out | with_reducible exact HG2.out | with_reducible exact HG1.out | with_reducible refine gb_drew ?_ | with_reducible refine gb_drewN ?_ _ | with_reducible refine gb_alloc ?_ _)) hg3)
       clear hg3
       have c0 := HG3.out.cell HC0.out (by simp)
       have c4 := HG3.out.cell HC4.out (by simp)
       have c5 := HG3.out.cell HC5.out (by simp))
    | go_simp
    refine hK.out _ _ (fun _ => (by first | with_reducible exact ⟨c0, c4, c5⟩ | go_keep)) (fun hH => ?_)
    replace hHeld := hH (by decide)
    clear hK hH K
    try simp only [Act.put, List.setIfInBounds_toArray, List.set_cons_zero, List.set_cons_succ]
    refine wpG_step (i := 17) (by kernel_rfl) (by simp only [List.getElem?_toArray, List.getElem?_cons_succ, List.getElem?_cons_zero]; rfl) (fun K hK => ?_)
    go_simp
    refine hK.out _ _ (fun _ => (by first | with_reducible exact ⟨c0, c4, c5⟩ | go_keep)) (fun hH => ?_)
    replace hHeld := hH (by decide)
    clear hK hH K
    try simp only [Act.put, List.setIfInBounds_toArray, List.set_cons_zero, List.set_cons_succ]
    refine wpG_step (i := 18) (by kernel_rfl) (by simp only [List.getElem?_toArray, List.getElem?_cons_succ, List.getElem?_cons_zero]; rfl) (fun K hK => ?_)
    go_simp
    refine hK.out _ _ (fun _ => (by first | with_reducible exact ⟨c0, c4, c5⟩ | go_keep)) (fun hH => ?_)
    replace hHeld := hH (by decide)
    clear hK hH K
    try simp only [Act.put, List.setIfInBounds_toArray, List.set_cons_zero, List.set_cons_succ]
    refine wpG_step (i := 19) (by kernel_rfl) (by simp only [List.getElem?_toArray, List.getElem?_cons_succ, List.getElem?_cons_zero]; rfl) (fun K hK => ?_)
    go_simp
    refine hK.out _ _ (fun _ => (by first | with_reducible exact ⟨c0, c4, c5⟩ | go_keep)) (fun hH => ?_)
    replace hHeld := hH (by decide)
    clear hK hH K
    try simp only [Act.put, List.setIfInBounds_toArray, List.set_cons_zero, List.set_cons_succ]
    refine wpG_step (i := 20) (by kernel_rfl) (by simp only [List.getElem?_toArray, List.getElem?_cons_succ, List.getElem?_cons_zero]; rfl) (fun K hK => ?_)
    go_simp
    refine hK.out _ _ (fun _ => (by first | with_reducible exact ⟨c0, c4, c5⟩ | go_keep)) (fun hH => ?_)
    replace hHeld := hH (by decide)
    clear hK hH K
    try simp only [Act.put, List.setIfInBounds_toArray, List.set_cons_zero, List.set_cons_succ]
    refine wpG_step (i := 21) (by kernel_rfl) (by simp only [List.getElem?_toArray, List.getElem?_cons_succ, List.getElem?_cons_zero]; rfl) (fun K hK => ?_)
    go_simp
    refine hK.out _ _ (fun _ => (by first | with_reducible exact ⟨c0, c4, c5⟩ | go_keep)) (fun hH => ?_)
    replace hHeld := hH (by decide)
    clear hK hH K
    try simp only [Act.put, List.setIfInBounds_toArray, List.set_cons_zero, List.set_cons_succ]
    refine wpG_step (i := 22) (by kernel_rfl) (by simp only [List.getElem?_toArray, List.getElem?_cons_succ, List.getElem?_cons_zero]; rfl) (fun K hK => ?_)
    go_simp
    refine hK.out _ _ (fun _ => (by first | with_reducible exact ⟨c0, c4, c5⟩ | go_keep)) (fun hH => ?_)
    replace hHeld := hH (by decide)
    clear hK hH K
    try simp only [Act.put, List.setIfInBounds_toArray, List.set_cons_zero, List.set_cons_succ]
    refine wpG_step (i := 23) (by kernel_rfl) (by simp only [List.getElem?_toArray, List.getElem?_cons_succ, List.getElem?_cons_zero]; rfl) (fun K hK => ?_)
    go_simp
    refine hK.out _ _ (fun _ => (by first | with_reducible exact ⟨c0, c4, c5⟩ | go_keep)) (fun hH => ?_)
    replace hHeld := hH (by decide)
    clear hK hH K
    try simp only [Act.put, List.setIfInBounds_toArray, List.set_cons_zero, List.set_cons_succ]
    refine wpG_step (i := 24) (by kernel_rfl) (by simp only [List.getElem?_toArray, List.getElem?_cons_succ, List.getElem?_cons_zero]; rfl) (fun K hK => ?_)
    go_simp
    refine hK.out _ _ (fun _ => (by first | with_reducible exact ⟨c0, c4, c5⟩ | go_keep)) (fun hH => ?_)
    replace hHeld := hH (by decide)
    clear hK hH K
    try simp only [Act.put, List.setIfInBounds_toArray, List.set_cons_zero, List.set_cons_succ]
    refine wpG_step (i := 25) (by kernel_rfl) (by simp only [List.getElem?_toArray, List.getElem?_cons_succ, List.getElem?_cons_zero]; rfl) (fun K hK => ?_)
    go_simp
    refine hK.out _ _ (fun _ => (by first | with_reducible exact ⟨c0, c4, c5⟩ | go_keep)) (fun hH => ?_)
    replace hHeld := hH (by decide)
    clear hK hH K
    try simp only [Act.put, List.setIfInBounds_toArray, List.set_cons_zero, List.set_cons_succ]
    refine wpG_step (i := 26) (by kernel_rfl) (by simp only [List.getElem?_toArray, List.getElem?_cons_succ, List.getElem?_cons_zero]; rfl) (fun K hK => ?_)
    go_simp
    refine hK.out _ _ (fun _ => (by first | with_reducible exact ⟨c0, c4, c5⟩ | go_keep)) (fun hH => ?_)
    replace hHeld := hH (by decide)
    clear hK hH K
    try simp only [Act.put, List.setIfInBounds_toArray, List.set_cons_zero, List.set_cons_succ]
    refine wpG_step (i := 27) (by kernel_rfl) (by simp only [List.getElem?_toArray, List.getElem?_cons_succ, List.getElem?_cons_zero]; rfl) (fun K hK => ?_)
    go_simp
    refine hK.out _ _ (fun _ => (by first | with_reducible exact ⟨c0, c4, c5⟩ | go_keep)) (fun hH => ?_)
    replace hHeld := hH (by decide)
    clear hK hH K
    try simp only [Act.put, List.setIfInBounds_toArray, List.set_cons_zero, List.set_cons_succ]
    refine wpG_step (i := 28) (by kernel_rfl) (by simp only [List.getElem?_toArray, List.getElem?_cons_succ, List.getElem?_cons_zero]; rfl) (fun K hK => ?_)
    go_simp
    refine hK.out _ _ (fun _ => (by first | with_reducible exact ⟨c0, c4, c5⟩ | go_keep)) (fun hH => ?_)
    replace hHeld := hH (by decide)
    clear hK hH K
    try simp only [Act.put, List.setIfInBounds_toArray, List.set_cons_zero, List.set_cons_succ]
    refine wpG_step (i := 29) (by kernel_rfl) (by simp only [List.getElem?_toArray, List.getElem?_cons_succ, List.getElem?_cons_zero]; rfl) (fun K hK => ?_)
    go_simp
    refine hK.out _ _ (fun _ => (by first | with_reducible exact ⟨c0, c4, c5⟩ | go_keep)) (fun hH => ?_)
    replace hHeld := hH (by decide)
    clear hK hH K
    try simp only [Act.put, List.setIfInBounds_toArray, List.set_cons_zero, List.set_cons_succ]
    refine wpG_step (i := 30) (by kernel_rfl) (by simp only [List.getElem?_toArray, List.getElem?_cons_succ, List.getElem?_cons_zero]; rfl) (fun K hK => ?_)
    go_simp
    refine hK.out _ _ (fun _ => (by first | with_reducible exact ⟨c0, c4, c5⟩ | go_keep)) (fun hH => ?_)
    replace hHeld := hH (by decide)
    clear hK hH K
    try simp only [Act.put, List.setIfInBounds_toArray, List.set_cons_zero, List.set_cons_succ]
    refine wpG_step (i := 31) (by kernel_rfl) (by simp only [List.getElem?_toArray, List.getElem?_cons_succ, List.getElem?_cons_zero]; rfl) (fun K hK => ?_)
    go_simp
    refine hK.out _ _ (fun _ => (by first | with_reducible exact ⟨c0, c4, c5⟩ | go_keep)) (fun hH => ?_)
    replace hHeld := hH (by decide)
    clear hK hH K
    try simp only [Act.put, List.setIfInBounds_toArray, List.set_cons_zero, List.set_cons_succ]
    refine wpG_step (i := 32) (by kernel_rfl) (by simp only [List.getElem?_toArray, List.getElem?_cons_succ, List.getElem?_cons_zero]; rfl) (fun K hK => ?_)
    go_simp
    refine hK.out _ _ (fun h => absurd rfl h) (fun _ => ?_)
    clear hK K
    refine wpG_done (by kernel_rfl) ?_
    go_wp2_with fail
    go_ret
    exact ⟨by first | (simp; done) | (have h3 := beq_eq_false_iff_ne.1 he2; simp [h3]; done) | (have h3 := beq_iff_eq.1 he2; simp [h3]), by first | exact HG3.out | exact HG2.out | exact HG1.out⟩
end Go.Proofs.YtddccnpohpaofaaGreatDoor
