/- The law on rows, walked. -/
import Derived.Test.YtceehihdihemmaaBWin
namespace Go.Proofs.Ytceehihdihemmaa
open Go.RowKit Mx

/-- The row and the list, side by side. -/
def RWX (w0 cur : World) (q : Nat) (p : Option Addr) (c : Nat) (zs : List Int) : Prop :=
  ∃ rg R first pr f, RowAt cur q rg R first pr f zs ∧ R ≤ 1000 ∧ w0.heap.size ≤ q ∧ (w0.heap.size ≤ rg ∧ rg < cur.heap.size) ∧ w0.grownBy cur none ∧
    ((p = none ∧ c = 0 ∧ zs = []) ∨ ∃ gl, w0.heap.size ≤ gl ∧ gl ≠ q ∧ gl ≠ rg ∧ WinL cur p c gl zs)

theorem RWX.lat {w0 cur : World} {q : Nat} {p : Option Addr} {c : Nat} {zs : List Int} (h : RWX w0 cur q p c zs) : LAt cur p zs := by
  obtain ⟨rg, R, first, pr, f, -, -, -, -, -, h⟩ := h
  rcases h with ⟨-, -, rfl⟩ | ⟨gl, -, -, -, h⟩
  · exact .inl rfl
  · exact h.lat

theorem WinL.keptS {S : Nat → Prop} {w w' : World} {p : Option Addr} {c gl : Nat} {zs : List Int} (h : WinL w p c gl zs) (hg : Fr2 S w w') (hS : ¬ S gl) : WinL w' p c gl zs := by
  obtain ⟨off, cur, h1, h2, h3, h4, h5⟩ := h
  exact ⟨off, cur, h1, h2, h3, (hg.block gl (Array.getElem?_eq_some_iff.1 h4).1 hS).trans h4, h5⟩

theorem WinL.lt {w : World} {p : Option Addr} {c gl : Nat} {zs : List Int} (h : WinL w p c gl zs) : gl < w.heap.size := by
  obtain ⟨off, cur, h1, h2, h3, h4, h5⟩ := h
  exact (Array.getElem?_eq_some_iff.1 h4).1

theorem RWX.kept {w0 cur w' : World} {q : Nat} {p : Option Addr} {c : Nat} {zs : List Int} (h : RWX w0 cur q p c zs) (hg : cur.grownBy w' none) : RWX w0 w' q p c zs := by
  obtain ⟨rg, R, first, pr, f, h1, h2, h3, h4, h5, h6⟩ := h
  exact ⟨rg, R, first, pr, f, h1.kept hg, h2, h3, ⟨h4.1, Nat.lt_of_lt_of_le h4.2 hg.size⟩, gb_trans h5 hg, h6.imp id fun ⟨gl, a, b, c, d⟩ => ⟨gl, a, b, c, d.keptS (S := fun _ => False) (Fr2.of hg (fun k e => by cases e)) (fun h => h)⟩⟩

theorem RWX.q {w0 cur : World} {q : Nat} {p : Option Addr} {c : Nat} {zs : List Int} (h : RWX w0 cur q p c zs) : q < cur.heap.size ∧ w0.grownBy cur none := by
  obtain ⟨rg, R, first, pr, f, h1, h2, h3, h4, h5, h6⟩ := h
  exact ⟨(Array.getElem?_eq_some_iff.1 h1.box).1, h5⟩

/-- The row alone has taken. -/
theorem RWX.take {w0 cur w' : World} {q rg R : Nat} {pr p : Option Addr} {c c' : Nat} {p' : Option Addr} {zs zs' : List Int} (hq : w0.heap.size ≤ q) (hrg : w0.heap.size ≤ rg ∧ rg < cur.heap.size) (hR : R ≤ 1000) (hgb : w0.grownBy cur none)
    (hw : (p = none ∧ c = 0 ∧ zs = []) ∨ ∃ gl, w0.heap.size ≤ gl ∧ gl ≠ q ∧ gl ≠ rg ∧ WinL cur p c gl zs) (hrow : ∃ first f, RowAt w' q rg R first pr f zs') (hfr : Fr2 (fun k => k = q ∨ k = rg) cur w')
    (hsub : ∀ gl, WinL w' p c gl zs → WinL w' p' c' gl zs') (hne : zs ≠ []) : RWX w0 w' q p' c' zs' := by
  obtain ⟨first, f, hrow⟩ := hrow
  refine ⟨rg, R, first, pr, f, hrow, hR, hq, ⟨hrg.1, Nat.lt_of_lt_of_le hrg.2 hfr.size⟩, Fr2.after hgb hfr (fun i hi => by omega), ?_⟩
  obtain ⟨gl, a, b, cc, d⟩ := hw.resolve_left (fun h => hne h.2.2)
  exact .inr ⟨gl, a, b, cc, hsub gl (d.keptS hfr (fun h => by omega))⟩

theorem WinL.tail {w : World} {c gl off : Nat} {x : Int} {r : List Int} (h : WinL w (some ⟨gl, off, none⟩) c gl (x :: r)) : WinL w (if c = 1 then some ⟨gl, off, none⟩ else some ⟨gl, off + 1, none⟩) (c - 1) gl r := by
  obtain ⟨o, cur, e, h1, h2, h3, h4, h5⟩ := h
  injection e with e; injection e with _ e; subst e
  simp only [List.length_cons] at h1 h5
  by_cases hc : c = 1
  · rw [if_pos hc]
    have hr : r = [] := List.eq_nil_of_length_eq_zero (by omega)
    subst hr
    exact ⟨off, cur, rfl, by simp, by omega, h3, by omega, fun j hj => by simp at hj⟩
  · rw [if_neg hc]
    exact ⟨off + 1, cur, rfl, by omega, by omega, h3, by omega, fun j hj => by
      have := h5 (j + 1) (by omega)
      rw [show off + 1 + j = off + (j + 1) by omega, this]
      simp⟩

theorem WinL.front {w : World} {p : Option Addr} {c gl : Nat} {x : Int} {r : List Int} (h : WinL w p c gl (r ++ [x])) : WinL w p c gl r := by
  obtain ⟨o, cur, e, h1, h2, h3, h4, h5⟩ := h
  simp only [List.length_append, List.length_cons, List.length_nil] at h1 h5
  exact ⟨o, cur, e, by omega, h2, h3, h4, fun j hj => by
    rw [h5 j (by omega)]
    simp [List.getD, List.getElem?_append_left hj]⟩

/-- Pushed on both sides. -/
theorem RWX.push {w0 cur w1 w2 : World} {q rg : Nat} {p' : Option Addr} {c' gl gl' : Nat} {ys : List Int} (hq : w0.heap.size ≤ q) (hrg0 : w0.heap.size ≤ rg ∧ rg < cur.heap.size) (hgb : w0.grownBy cur none) (hqs : q < cur.heap.size) (hgl : gl = w1.heap.size ∨ (gl ≠ q ∧ gl ≠ rg ∧ gl < cur.heap.size ∧ w0.heap.size ≤ gl))
    (hrow : ∃ rg' R' first' pr' f', RowAt w1 q rg' R' first' pr' f' ys ∧ R' ≤ 1000 ∧ (rg' = rg ∨ (cur.heap.size ≤ rg' ∧ 0 < R')) ∧ rg' ≠ gl') (hfr : Fr2 (fun k => k = q ∨ k = rg) cur w1)
    (hwin : WinN w2 w0.heap.size p' c' gl' ys) (hfr2 : Fr2 (fun k => k = gl) w1 w2) (hgl2 : gl' ≠ q) : RWX w0 w2 q p' c' ys := by
  obtain ⟨rg', R', first', pr', f', h1, h2, h3, h4⟩ := hrow
  have hsz := hfr.size
  have hrl : rg' < w1.heap.size := by
    rcases h3 with h3 | ⟨h3, h3b⟩
    · omega
    · exact (h1.ring.resolve_left (by omega)).2.2.lt
  have hsz2 := hfr2.size
  have hgq : gl ≠ q := by omega
  have hgr : gl ≠ rg' := by omega
  have hcs := hgb.size
  refine ⟨rg', R', first', pr', f', ⟨(hfr2.block _ (Array.getElem?_eq_some_iff.1 h1.box).1 (fun e => hgq e.symm)).trans h1.box, h1.cnt, h1.big, h1.fst, h1.ring.imp id fun ⟨a, b, cc⟩ => ⟨a, b, cc.keptS hfr2 (fun e => hgr e.symm)⟩, h1.vals⟩, h2, hq, ⟨by omega, by omega⟩, ?_, ?_⟩
  · exact Fr2.after (Fr2.after hgb hfr (fun i hi => by omega)) hfr2 (fun i hi => by omega)
  · rcases hwin with h | ⟨a, b⟩
    · exact .inl h
    · exact .inr ⟨gl', a, hgl2, h4.symm, b⟩

set_option maxRecDepth 100000 in
set_option maxHeartbeats 16000000 in
theorem rows_c (pa : Option Addr) (ca : Nat) (l0 : List Int) (po : Option Addr) (m co : Nat) (D K V : Nat → Int) (w : World) (ha : l0.length ≤ ca) (hal : l0.length < 9223372036854775808) (hm : m ≤ co) (hml : m < 9223372036854775808) (h1 : LAt w pa l0) (hops : OpsAt w po m D K V) :
    Calls Try.prog 6 #[.slice pa l0.length ca, .slice po m co] w (ValPost (.bool true) w) := by
  have HA := Lib.hid h1; have HO := Lib.hid hops
  obtain ⟨n0, hn0⟩ : ∃ n0, l0.length = n0 := ⟨_, rfl⟩
  rw [hn0] at ha hal ⊢
  have HN0 := Lib.hid hn0
  clear h1 hops hn0
  go_enter Try.func6, Try.ntmps6
  go_wp2_with fail
  refine (anchor_c _).mono ?_
  rintro e w1 ⟨rfl, g1⟩
  have G1 := Lib.hid g1
  clear g1
  by_cases ha30 : 30 < n0
  · have d1 : decide ((30 : Int) < n0) = true := decide_eq_true (by omega)
    have d1' : decide (30 < n0) = true := decide_eq_true ha30
    go_wp2_with fail
    go_ret
    exact ⟨rfl, G1.out⟩
  have d1 : decide ((30 : Int) < n0) = false := decide_eq_false (by omega)
  have d1' : decide (30 < n0) = false := decide_eq_false ha30
  by_cases hm100 : 100 < m
  · have d2 : decide ((100 : Int) < m) = true := decide_eq_true (by omega)
    have d2' : decide (100 < m) = true := decide_eq_true hm100
    go_wp2_with fail
    go_ret
    exact ⟨rfl, G1.out⟩
  have d2 : decide ((100 : Int) < m) = false := decide_eq_false (by omega)
  have d2' : decide (100 < m) = false := decide_eq_false hm100
  have HNR := NewRow_c pa ca l0 w1 (by have := HN0.out; omega) (HA.out.kept G1.out)
  rw [HN0.out] at HNR
  have HNR := Lib.hid HNR
  go_wp2_with fail
  refine HNR.out.mono ?_
  rintro e w2 ⟨q, rg, R, first, pr, f, rfl, hrow, hR, hq, hrg, hrgl, hg2⟩
  have HROW := Lib.hid hrow; have HR := Lib.hid hR; have HQ := Lib.hid (show w.heap.size ≤ q ∧ w.heap.size ≤ rg ∧ rg < w2.heap.size by have := G1.out.size; omega); have G2 := Lib.hid (gb_trans G1.out hg2)
  have hrl := (Array.getElem?_eq_some_iff.1 hrow.box).1
  have HRL := Lib.hid hrl
  have hro : OwnL (w2.alloc (.cells #[] 3)) w2.heap.size (.slice (some ⟨w2.heap.size, 0, none⟩) 0 0) [] := World.ownsRow_made w2 #[] 0 (Nat.le_refl _) (by unfold maxLen; omega) rfl
  have HRO := Lib.hid hro
  have HGA := Lib.hid (World.grownBy_alloc w2 (.cells #[] 3) none)
  clear hrow hR hq hrg hrgl hg2 hrl hro HNR
  go_wp2_with (at_builtin; go_loud (refine wpList_appL (t := 22) Try.underlying22 rfl _ _ rfl w2.heap.size [] l0 pa ca (.slice (some ⟨w2.heap.size, 0, none⟩) 0 0) rfl HRO.out (HA.out.kept (gb_trans G2.out HGA.out)) n0 HN0.out rfl (by simp) (by have := HN0.out; omega) (by simp) ?_))
  intro p3 n3 c3 w3 hn3 hO3 hB3
  have hO3 : OwnL w3 w2.heap.size (.slice p3 n3 c3) l0 := by simpa using hO3
  have hg3 : w2.grownBy w3 none := below_gb (Below.trans2 (Below.gb HGA.out (Nat.le_refl _)) hB3)
  have hrwx : RWX w w3 q p3 c3 l0 := by
    refine ⟨rg, R, first, pr, f, HROW.out.kept hg3, HR.out, HQ.out.1, ⟨HQ.out.2.1, Nat.lt_of_lt_of_le HQ.out.2.2 hg3.size⟩, gb_trans G2.out hg3, ?_⟩
    obtain ⟨gl, hw⟩ := win_row hO3
    rcases hw with h | ⟨hb, h⟩
    · exact .inl h
    · exact .inr ⟨gl, by have := G2.out.size; omega, by have := HRL.out; omega, by have := HQ.out; omega, h⟩
  have HRW := Lib.hid hrwx; have HN3 := Lib.hid (show n3 = l0.length from hn3.trans (by simp))
  have hl30 : l0.length ≤ 30 := by have := HN0.out; omega
  have HL30 := Lib.hid hl30
  clear hn3 hO3 hB3 hg3 hrwx HRO HGA HROW HR hl30 HRL
  go_wp2_with fail
  go_loopw [6, 30] (fun lv i cur => ∃ (j : Nat) (zs : List Int) (p : Option Addr) (n c : Nat), j ≤ m ∧ i = .int .i64 j ∧ lv = .slice p n c ∧ Hid (n = zs.length) ∧ Hid (zs.length ≤ 30 + 2 * j) ∧ Hid (RWX w cur q p c zs)) (fun _ i _ => m - (intOf i).toNat)
  case atStart => exact ⟨0, l0, p3, n3, c3, by omega, rfl, rfl, HN3, Lib.hid (by have := HL30.out; omega), HRW⟩
  case round =>
    clear HRW HN3 HL30
    obtain ⟨j, zs, p, n, c, hj, rfl, rfl, HN, HL, HRW⟩ := hrel
    by_cases hjm : j < m
    · obtain ⟨go, oo, rfl, hgo, hcell⟩ := HO.out.resolve_left (by omega)
      obtain ⟨y0, y1, y2⟩ := hcell j hjm
      have y0 := HRW.out.q.2.cell y0 (by simp); have y1 := HRW.out.q.2.cell y1 (by simp); have y2 := HRW.out.q.2.cell y2 (by simp)
      clear hcell
      generalize D j = Dj at *
      generalize K j = Kj at *
      generalize V j = Vj at *
      obtain ⟨hx, hxe⟩ : ∃ h, wr.heap.size = h := ⟨_, rfl⟩
      have hbx := heap_alloc_new wr (.cells #[.int .i64 Dj, .int .i64 Kj, .int .i64 Vj] 49)
      have hga := World.grownBy_alloc wr (.cells #[.int .i64 Dj, .int .i64 Kj, .int .i64 Vj] 49) none
      rw [hxe] at hbx
      have hn100 : n ≤ 230 := by have := HN.out; have := HL.out; omega
      have hrw2 := HRW.out.kept hga
      have HQS := Lib.hid (show q < hx by have := HRW.out.q.1; omega)
      obtain ⟨W, hW⟩ : ∃ W, W = wr.alloc (.cells #[.int .i64 Dj, .int .i64 Kj, .int .i64 Vj] 49) := ⟨_, rfl⟩
      rw [← hW] at hbx hrw2
      have HBX := Lib.hid hbx
      obtain ⟨x0, x1, x2, x3⟩ := cells3' HBX.out
      have HRW0 := HRW
      have HRW := Lib.hid hrw2; have HGW := Lib.hid (show wr.grownBy W none from hW ▸ hga); have HWS := Lib.hid (show W.heap.size = hx + 1 by rw [hW]; simp [hxe])
      have HXE := Lib.hid (fun _ : Unit => hxe)
      clear hbx hga hrw2 hxe
      by_cases k1 : Dj = 1
      · obtain ⟨rg, R, first, pr, f, hrow, hR, hq, hrg, hgb, hwin⟩ := HRW0.out
        have hxe := HXE.out ()
        have hws := HWS.out
        have hrow := hrow.kept HGW.out
        have hgbW := gb_trans hgb HGW.out
        have b1 : (Dj == 1) = true := beq_iff_eq.2 k1
        have b2 : (Dj == 2) = false := by rw [k1]; rfl
        have b3 : (Dj == 3) = false := by rw [k1]; rfl
        have b4 : (Dj == 4) = false := by rw [k1]; rfl
        clear k1

        have hga := World.grownBy_alloc W (.cells #[.int .i64 Kj, .int .i64 Vj] 3) none
        have hly : LAt (W.alloc (.cells #[.int .i64 Kj, .int .i64 Vj] 3)) (some ⟨W.heap.size, 0, none⟩) [Kj, Vj] := .inr ⟨W.heap.size, 0, rfl, by simp, fun j hj => by
          rw [cell_of_row _ W.heap.size _ _ _ (0, 0) (heap_alloc_new W _)]
          match j, hj with
          | 0, _ => rfl
          | 1, _ => rfl⟩
        have hqW := HRW.out.q.1
        have hp : Calls Try.prog 36 #[.pointer (some ⟨q, 0, none⟩), .slice (some ⟨W.heap.size, 0, none⟩) 2 2] (W.alloc (.cells #[.int .i64 Kj, .int .i64 Vj] 3)) (PushPost q rg (zs ++ [Kj, Vj]) (W.alloc (.cells #[.int .i64 Kj, .int .i64 Vj] 3))) :=
          Push_c (some ⟨W.heap.size, 0, none⟩) 2 [Kj, Vj] (by have := HL.out; simp; omega) hR (hrow.kept hga) hly (fun _ a ha => by injection ha with ha; subst ha; exact ⟨by simp; omega, by simp; omega⟩)
        rw [hws] at hp
        have HP := Lib.hid hp; have HGA := Lib.hid hga; have HWIN := Lib.hid hwin; have HQ9 := Lib.hid (And.intro hq hrg); have HGBW := Lib.hid hgbW; have HQW := Lib.hid hqW
        have HB2 := Lib.hid (bx hga HBX.out)
        obtain ⟨z0, z1, z2, z3⟩ := cells3' HB2.out
        clear hp hga hly hrow hR hq hrg hgb hwin hxe hws hgbW hqW z3
        go_wp2_with fail
        rw [← hW, HXE.out ()]
        clear hW y0 y1 y2
        refine HP.out.mono ?_
        rintro e w5 ⟨rfl, ⟨rg5, R5, first5, pr5, f5, hrow5, hR5, hrg5⟩, hfr5⟩
        have hwin := HWIN.out
        have hxe := HXE.out ()
        have hws := HWS.out
        have hrgl := HQ9.out.2
        have hqs := HQS.out
        have hqw := HQW.out
        have hsz5 := hfr5.size
        simp only [World.size_alloc] at hsz5 hrg5

        obtain ⟨gl, hgl, hwn⟩ : ∃ gl, (gl = w5.heap.size ∨ (gl ≠ q ∧ gl ≠ rg ∧ gl < (W.alloc (.cells #[.int .i64 Kj, .int .i64 Vj] 3)).heap.size ∧ w.heap.size ≤ gl)) ∧ WinN w5 w.heap.size p c gl zs := by
          rcases hwin with h | ⟨gl, a, b, cc, d⟩
          · exact ⟨w5.heap.size, .inl rfl, .inl h⟩
          · have h1 := d.lt
            have h2 := HGW.out.size
            exact ⟨gl, .inr ⟨b, cc, by simp; omega, a⟩, .inr ⟨a, (d.keptS (S := fun _ => False) (Fr2.of (row := none) (gb_trans HGW.out HGA.out) (fun k e => by cases e)) (fun h => h)).keptS hfr5 (fun h => by omega)⟩⟩

        have hb5 := (hfr5.block _ (Array.getElem?_eq_some_iff.1 HB2.out).1 (by omega)).trans HB2.out
        obtain ⟨x0, x1, x2, x3⟩ := cells3' hb5
        have hrl5 : rg5 < w5.heap.size := by
          rcases hrg5 with h | ⟨h, h3⟩
          · omega
          · exact (hrow5.ring.resolve_left (by omega)).2.2.lt
        have HROW5 := Lib.hid (And.intro hrow5 hR5); have HRG5 := Lib.hid hrg5; have HFR5 := Lib.hid hfr5; have HGL := Lib.hid hgl; have HWN := Lib.hid hwn; have HRL5 := Lib.hid hrl5; have HSZ5 := Lib.hid hsz5
        clear hrow5 hR5 hrg5 hfr5 hgl hwn hb5 hwin hxe hws hrgl hqs hqw hsz5 hrl5 z0 z1 z2 x3
        go_wp2_with (at_builtin; go_loud (refine wpList_appW (t := 22) Try.underlying22 rfl _ _ rfl w.heap.size gl zs Kj Vj p n c HN.out rfl HWN.out _ rfl rfl (by have := HL.out; omega) (by have h1 := HGBW.out.size; have h2 := HSZ5.out; omega) ?_))
        intro p6 n6 c6 gl6 w6 hn6 hw6 hgl6 hfr6
        have hn6' : n6 = (zs ++ [Kj, Vj]).length := by rw [hn6]; simp
        have HN6 := Lib.hid hn6'
        have HL6 : Hid ((zs ++ [Kj, Vj]).length ≤ 30 + 2 * (j + 1)) := Lib.hid (by have := HL.out; simp; omega)
        have hrwx : RWX w w6 q p6 c6 (zs ++ [Kj, Vj]) := by
          have h1 := HGL.out; have h2 := HRG5.out; have h3 := HRL5.out; have h4 := HSZ5.out; have h5 := HQ9.out; have h6 := HQW.out; have hws := HWS.out; have hxe := HXE.out ()
          exact RWX.push (cur := W.alloc (.cells #[.int .i64 Kj, .int .i64 Vj] 3)) (rg := rg) h5.1 ⟨h5.2.1, by simp; omega⟩ (gb_trans HGBW.out HGA.out) (by simp; omega) h1 ⟨rg5, R5, first5, pr5, f5, HROW5.out.1, HROW5.out.2, by simpa using h2, by simp at h1; omega⟩ HFR5.out hw6 hfr6 (by simp at h1; omega)
        have HRW6 := Lib.hid hrwx
        clear hn6 hw6 hgl6 hfr6 hn6' hrwx

        obtain ⟨rg9, R9, first9, pr9, f9, hrow9, hR9, hq9, hrg9, hgb9, hwin9⟩ := HRW6.out
        have hlen9 := RLen_c hrow9
        rw [← HN6.out] at hlen9
        have HLEN9 := Lib.hid hlen9; have HALL9 := Lib.hid (All_c hrow9); have HLAT9 := Lib.hid HRW6.out.lat; have HGB9 := Lib.hid hgb9
        have hnn : ((n6 : Int) != (n6 : Int)) = false := by simp
        clear hrow9 hR9 hq9 hrg9 hgb9 hwin9 hlen9
        go_wp2_with fail
        refine HLEN9.out.mono ?_
        rintro e w9 ⟨rfl, rfl⟩
        go_wp2_with fail
        refine HALL9.out.mono ?_
        rintro e w10 ⟨p10, n10, c10, rfl, ⟨pz, cz, he, -, -, hi3⟩, -, hg10⟩
        injection he with e1 e2 e3; subst e1; subst e3
        have hs10 := RSame_c p10 p6 c10 c6 (zs ++ [Kj, Vj]) (zs ++ [Kj, Vj]) w10 (by have := HN6.out; have := HL6.out; omega) hi3 (HLAT9.out.kept hg10)
        rw [decide_eq_true (rfl : (zs ++ [Kj, Vj]) = (zs ++ [Kj, Vj])), ← e2] at hs10
        have e11 : n10 = n6 := e2.trans HN6.out.symm
        have HS10 := Lib.hid hs10; have HRW11 := Lib.hid (HRW6.out.kept hg10)
        subst e11
        clear hi3 hg10 hs10 e2 hnn
        go_wp2_with fail
        refine HS10.out.mono ?_
        rintro e w11 ⟨rfl, hg11⟩
        have HRW12 := Lib.hid (HRW11.out.kept hg11)
        clear hg11 x0 x1 x2
        go_wp2_with fail
        go_roundw
        case rel => exact ⟨j + 1, zs ++ [Kj, Vj], _, _, _, by omega, by go_num, rfl, HN6, Lib.hid (HL6.out), HRW12⟩
        case measure => simp [intOf]; omega
      by_cases k2 : Dj = 2
      · rcases zs with _ | ⟨x, r⟩
        · obtain ⟨rg, R, first, pr, f, hrow, hR, hq, hrg, hgb, hwin⟩ := HRW0.out
          have hxe := HXE.out ()
          have hws := HWS.out
          have hrow := hrow.kept HGW.out
          have hgbW := gb_trans hgb HGW.out
          have b1 : (Dj == 1) = false := beq_eq_false_iff_ne.2 k1
          have b2 : (Dj == 2) = true := beq_iff_eq.2 k2
          have b3 : (Dj == 3) = false := by rw [k2]; rfl
          have b4 : (Dj == 4) = false := by rw [k2]; rfl
          clear k1 k2

          have HP := Lib.hid (Pop0_c hrow)
          obtain rfl : n = 0 := HN.out
          clear hrow hR hq hrg hgb hwin hxe hws hgbW
          go_wp2_with fail
          rw [← hW, HXE.out ()]
          clear hW y0 y1 y2
          refine HP.out.mono ?_
          rintro e w5 ⟨rfl, rfl⟩

          obtain ⟨rg9, R9, first9, pr9, f9, hrow9, hR9, hq9, hrg9, hgb9, hwin9⟩ := HRW.out
          have hlen9 := RLen_c hrow9
          rw [← HN.out] at hlen9
          have HLEN9 := Lib.hid hlen9; have HALL9 := Lib.hid (All_c hrow9); have HLAT9 := Lib.hid HRW.out.lat; have HGB9 := Lib.hid hgb9
          have hnn : ((0 : Int) != (0 : Int)) = false := by simp
          clear hrow9 hR9 hq9 hrg9 hgb9 hwin9 hlen9
          go_wp2_with fail
          refine HLEN9.out.mono ?_
          rintro e w9 ⟨rfl, rfl⟩
          go_wp2_with fail
          refine HALL9.out.mono ?_
          rintro e w10 ⟨p10, n10, c10, rfl, ⟨pz, cz, he, -, -, hi3⟩, -, hg10⟩
          injection he with e1 e2 e3; subst e1; subst e3
          have hs10 := RSame_c p10 p c10 c (([] : List Int)) (([] : List Int)) w10 (by have := HN.out; have := HL.out; omega) hi3 (HLAT9.out.kept hg10)
          rw [decide_eq_true (rfl : (([] : List Int)) = (([] : List Int))), ← e2] at hs10
          have e11 : n10 = 0 := e2.trans HN.out.symm
          have HS10 := Lib.hid hs10; have HRW11 := Lib.hid (HRW.out.kept hg10)
          subst e11
          clear hi3 hg10 hs10 e2 hnn
          go_wp2_with fail
          refine HS10.out.mono ?_
          rintro e w11 ⟨rfl, hg11⟩
          have HRW12 := Lib.hid (HRW11.out.kept hg11)
          clear hg11 x0 x1 x2
          go_wp2_with fail
          go_roundw
          case rel => exact ⟨j + 1, ([] : List Int), _, _, _, by omega, by go_num, rfl, HN, Lib.hid (by simp), HRW12⟩
          case measure => simp [intOf]; omega
        · obtain ⟨rg, R, first, pr, f, hrow, hR, hq, hrg, hgb, hwin⟩ := HRW0.out
          have hxe := HXE.out ()
          have hws := HWS.out
          have hrow := hrow.kept HGW.out
          have hgbW := gb_trans hgb HGW.out
          have b1 : (Dj == 1) = false := beq_eq_false_iff_ne.2 k1
          have b2 : (Dj == 2) = true := beq_iff_eq.2 k2
          have b3 : (Dj == 3) = false := by rw [k2]; rfl
          have b4 : (Dj == 4) = false := by rw [k2]; rfl
          clear k1 k2

          have HP := Lib.hid (Pop_c hrow)
          obtain ⟨gl, a1, a2, a3, hwl⟩ := hwin.resolve_left (by simp)
          have hwl := hwl.keptS (S := fun _ => False) (Fr2.of (row := none) HGW.out (fun k e => by cases e)) (fun h => h)
          obtain ⟨off, cur0, rfl, hnc, hcm, -, -, -⟩ := id hwl
          have hxn : n = r.length + 1 := HN.out

          have HWL := Lib.hid hwl; have HQ9 := Lib.hid (And.intro hq hrg); have HR9 := Lib.hid hR; have HGB := Lib.hid hgbW; have HA9 := Lib.hid (And.intro a1 (And.intro a2 a3)); have HXN := Lib.hid hxn
          have hn0 : 0 < n := by omega
          have e1 : decide ((0 : Int) < n) = true := decide_eq_true (by omega)
          have e3 : (x != x) = false := by simp

          have hnc : n ≤ c := by simpa [hxn] using hnc
          clear hrow hR hq hrg hgb hwin hxe hws hgbW hwl a1 a2 a3 hxn HN

          go_wp2_with fail
          rw [← hW, HXE.out ()]
          clear hW y0 y1 y2
          refine HP.out.mono ?_
          rintro e w5 ⟨rfl, hrow5, hfr5⟩

          by_cases hc : c = 1
          · subst hc
            have hwl5 := HWL.out.keptS hfr5 (by have := HA9.out; omega)
            obtain ⟨o5, cu5, f1, f2, f3, f4, f5, f6⟩ := id hwl5
            injection f1 with f1; injection f1 with _ f1; subst f1
            have c0 : w5.cell? ⟨gl, off, none⟩ = some (.int .i64 x) := by
              rw [cell_of_row w5 gl _ cu5 _ (0, 0) f4]
              simpa using f6 0 (by simp)
            have HWL5 := Lib.hid hwl5; have HROW5 := Lib.hid hrow5; have HFR5 := Lib.hid hfr5
            clear hwl5 hrow5 hfr5 f2 f3 f4 f5 f6
            go_wp2_with fail
            have hrwx : RWX w w5 q (some ⟨gl, off, none⟩) 0 r := by
              have h1 := HQ9.out; have h2 := HWS.out; have hxe := HXE.out (); have h3 := HA9.out
              exact RWX.take (cur := W) h1.1 ⟨h1.2.1, by omega⟩ HR9.out HGB.out (.inr ⟨gl, h3.1, h3.2.1, h3.2.2, HWL.out⟩) HROW5.out HFR5.out (fun gl' h => by
                obtain ⟨o, cu, e, -⟩ := id h
                injection e with e; injection e with e; subst e
                simpa using h.tail) (by simp)
            have HRW6 := Lib.hid hrwx
            have HN6 : Hid (0 = r.length) := Lib.hid (by have := HXN.out; omega)
            have HL6 : Hid (r.length ≤ 30 + 2 * (j + 1)) := Lib.hid (by have := HL.out; simp at this; omega)
            clear hrwx
            clear c0 hn0 e1 e3 hnc

            obtain ⟨rg9, R9, first9, pr9, f9, hrow9, hR9, hq9, hrg9, hgb9, hwin9⟩ := HRW6.out
            have hlen9 := RLen_c hrow9
            rw [← HN6.out] at hlen9
            have HLEN9 := Lib.hid hlen9; have HALL9 := Lib.hid (All_c hrow9); have HLAT9 := Lib.hid HRW6.out.lat; have HGB9 := Lib.hid hgb9
            have hnn : ((0 : Int) != (0 : Int)) = false := by simp
            clear hrow9 hR9 hq9 hrg9 hgb9 hwin9 hlen9
            go_wp2_with fail
            refine HLEN9.out.mono ?_
            rintro e w9 ⟨rfl, rfl⟩
            go_wp2_with fail
            refine HALL9.out.mono ?_
            rintro e w10 ⟨p10, n10, c10, rfl, ⟨pz, cz, he, -, -, hi3⟩, -, hg10⟩
            injection he with e1 e2 e3; subst e1; subst e3
            have hs10 := RSame_c p10 (some ⟨gl, off, none⟩) c10 0 (r) (r) w10 (by have := HN6.out; have := HL6.out; omega) hi3 (HLAT9.out.kept hg10)
            rw [decide_eq_true (rfl : (r) = (r)), ← e2] at hs10
            have e11 : n10 = 0 := e2.trans HN6.out.symm
            have HS10 := Lib.hid hs10; have HRW11 := Lib.hid (HRW6.out.kept hg10)
            subst e11
            clear hi3 hg10 hs10 e2 hnn
            go_wp2_with fail
            refine HS10.out.mono ?_
            rintro e w11 ⟨rfl, hg11⟩
            have HRW12 := Lib.hid (HRW11.out.kept hg11)
            clear hg11 x0 x1 x2
            go_wp2_with fail
            go_roundw
            case rel => exact ⟨j + 1, r, _, _, _, by omega, by go_num, rfl, HN6, Lib.hid (HL6.out), HRW12⟩
            case measure => simp [intOf]; omega
          · have hwl5 := HWL.out.keptS hfr5 (by have := HA9.out; omega)
            obtain ⟨o5, cu5, f1, f2, f3, f4, f5, f6⟩ := id hwl5
            injection f1 with f1; injection f1 with _ f1; subst f1
            have c0 : w5.cell? ⟨gl, off, none⟩ = some (.int .i64 x) := by
              rw [cell_of_row w5 gl _ cu5 _ (0, 0) f4]
              simpa using f6 0 (by simp)
            have HWL5 := Lib.hid hwl5; have HROW5 := Lib.hid hrow5; have HFR5 := Lib.hid hfr5
            clear hwl5 hrow5 hfr5 f2 f3 f4 f5 f6
            go_wp2_with fail
            have hrwx : RWX w w5 q (some ⟨gl, off + 1, none⟩) (c - 1) r := by
              have h1 := HQ9.out; have h2 := HWS.out; have hxe := HXE.out (); have h3 := HA9.out
              exact RWX.take (cur := W) h1.1 ⟨h1.2.1, by omega⟩ HR9.out HGB.out (.inr ⟨gl, h3.1, h3.2.1, h3.2.2, HWL.out⟩) HROW5.out HFR5.out (fun gl' h => by
                obtain ⟨o, cu, e, -⟩ := id h
                injection e with e; injection e with e; subst e
                have h := h.tail; rw [if_neg hc] at h; exact h) (by simp)
            have HRW6 := Lib.hid hrwx
            have HN6 : Hid ((n - 1) = r.length) := Lib.hid (by have := HXN.out; omega)
            have HL6 : Hid (r.length ≤ 30 + 2 * (j + 1)) := Lib.hid (by have := HL.out; simp at this; omega)
            clear hrwx
            clear c0 hn0 e1 e3 hnc
            generalize n - 1 = n6 at HN6 ⊢
            clear hc
            generalize c - 1 = c6 at HRW6 ⊢

            obtain ⟨rg9, R9, first9, pr9, f9, hrow9, hR9, hq9, hrg9, hgb9, hwin9⟩ := HRW6.out
            have hlen9 := RLen_c hrow9
            rw [← HN6.out] at hlen9
            have HLEN9 := Lib.hid hlen9; have HALL9 := Lib.hid (All_c hrow9); have HLAT9 := Lib.hid HRW6.out.lat; have HGB9 := Lib.hid hgb9
            have hnn : ((n6 : Int) != (n6 : Int)) = false := by simp
            clear hrow9 hR9 hq9 hrg9 hgb9 hwin9 hlen9
            go_wp2_with fail
            refine HLEN9.out.mono ?_
            rintro e w9 ⟨rfl, rfl⟩
            go_wp2_with fail
            refine HALL9.out.mono ?_
            rintro e w10 ⟨p10, n10, c10, rfl, ⟨pz, cz, he, -, -, hi3⟩, -, hg10⟩
            injection he with e1 e2 e3; subst e1; subst e3
            have hs10 := RSame_c p10 (some ⟨gl, off + 1, none⟩) c10 c6 (r) (r) w10 (by have := HN6.out; have := HL6.out; omega) hi3 (HLAT9.out.kept hg10)
            rw [decide_eq_true (rfl : (r) = (r)), ← e2] at hs10
            have e11 : n10 = n6 := e2.trans HN6.out.symm
            have HS10 := Lib.hid hs10; have HRW11 := Lib.hid (HRW6.out.kept hg10)
            subst e11
            clear hi3 hg10 hs10 e2 hnn
            go_wp2_with fail
            refine HS10.out.mono ?_
            rintro e w11 ⟨rfl, hg11⟩
            have HRW12 := Lib.hid (HRW11.out.kept hg11)
            clear hg11 x0 x1 x2
            go_wp2_with fail
            go_roundw
            case rel => exact ⟨j + 1, r, _, _, _, by omega, by go_num, rfl, HN6, Lib.hid (HL6.out), HRW12⟩
            case measure => simp [intOf]; omega
      by_cases k3 : Dj = 3
      · rcases List.eq_nil_or_concat zs with rfl | ⟨r, x, hzs⟩
        · obtain ⟨rg, R, first, pr, f, hrow, hR, hq, hrg, hgb, hwin⟩ := HRW0.out
          have hxe := HXE.out ()
          have hws := HWS.out
          have hrow := hrow.kept HGW.out
          have hgbW := gb_trans hgb HGW.out
          have b1 : (Dj == 1) = false := beq_eq_false_iff_ne.2 k1
          have b2 : (Dj == 2) = false := beq_eq_false_iff_ne.2 k2
          have b3 : (Dj == 3) = true := beq_iff_eq.2 k3
          have b4 : (Dj == 4) = false := by rw [k3]; rfl
          clear k1 k2 k3

          have HP := Lib.hid (Last0_c hrow)
          obtain rfl : n = 0 := HN.out
          clear hrow hR hq hrg hgb hwin hxe hws hgbW
          go_wp2_with fail
          rw [← hW, HXE.out ()]
          clear hW y0 y1 y2
          refine HP.out.mono ?_
          rintro e w5 ⟨rfl, rfl⟩

          obtain ⟨rg9, R9, first9, pr9, f9, hrow9, hR9, hq9, hrg9, hgb9, hwin9⟩ := HRW.out
          have hlen9 := RLen_c hrow9
          rw [← HN.out] at hlen9
          have HLEN9 := Lib.hid hlen9; have HALL9 := Lib.hid (All_c hrow9); have HLAT9 := Lib.hid HRW.out.lat; have HGB9 := Lib.hid hgb9
          have hnn : ((0 : Int) != (0 : Int)) = false := by simp
          clear hrow9 hR9 hq9 hrg9 hgb9 hwin9 hlen9
          go_wp2_with fail
          refine HLEN9.out.mono ?_
          rintro e w9 ⟨rfl, rfl⟩
          go_wp2_with fail
          refine HALL9.out.mono ?_
          rintro e w10 ⟨p10, n10, c10, rfl, ⟨pz, cz, he, -, -, hi3⟩, -, hg10⟩
          injection he with e1 e2 e3; subst e1; subst e3
          have hs10 := RSame_c p10 p c10 c (([] : List Int)) (([] : List Int)) w10 (by have := HN.out; have := HL.out; omega) hi3 (HLAT9.out.kept hg10)
          rw [decide_eq_true (rfl : (([] : List Int)) = (([] : List Int))), ← e2] at hs10
          have e11 : n10 = 0 := e2.trans HN.out.symm
          have HS10 := Lib.hid hs10; have HRW11 := Lib.hid (HRW.out.kept hg10)
          subst e11
          clear hi3 hg10 hs10 e2 hnn
          go_wp2_with fail
          refine HS10.out.mono ?_
          rintro e w11 ⟨rfl, hg11⟩
          have HRW12 := Lib.hid (HRW11.out.kept hg11)
          clear hg11 x0 x1 x2
          go_wp2_with fail
          go_roundw
          case rel => exact ⟨j + 1, ([] : List Int), _, _, _, by omega, by go_num, rfl, HN, Lib.hid (by simp), HRW12⟩
          case measure => simp [intOf]; omega
        · rw [List.concat_eq_append] at hzs
          subst hzs
          obtain ⟨rg, R, first, pr, f, hrow, hR, hq, hrg, hgb, hwin⟩ := HRW0.out
          have hxe := HXE.out ()
          have hws := HWS.out
          have hrow := hrow.kept HGW.out
          have hgbW := gb_trans hgb HGW.out
          have b1 : (Dj == 1) = false := beq_eq_false_iff_ne.2 k1
          have b2 : (Dj == 2) = false := beq_eq_false_iff_ne.2 k2
          have b3 : (Dj == 3) = true := beq_iff_eq.2 k3
          have b4 : (Dj == 4) = false := by rw [k3]; rfl
          clear k1 k2 k3

          have HP := Lib.hid (Last_c hrow)
          obtain ⟨gl, a1, a2, a3, hwl⟩ := hwin.resolve_left (by simp)
          have hwl := hwl.keptS (S := fun _ => False) (Fr2.of (row := none) HGW.out (fun k e => by cases e)) (fun h => h)
          obtain ⟨off, cur0, rfl, hnc, hcm, -, -, -⟩ := id hwl
          have hxn : n = r.length + 1 := by rw [HN.out]; simp

          have HWL := Lib.hid hwl; have HQ9 := Lib.hid (And.intro hq hrg); have HR9 := Lib.hid hR; have HGB := Lib.hid hgbW; have HA9 := Lib.hid (And.intro a1 (And.intro a2 a3)); have HXN := Lib.hid hxn
          have hn0 : 0 < n := by omega
          have e1 : decide ((0 : Int) < n) = true := decide_eq_true (by omega)
          have e3 : (x != x) = false := by simp

          have hnc : n ≤ c := by simpa [hxn] using hnc
          obtain ⟨i, hi⟩ : ∃ i, r.length = i := ⟨_, rfl⟩
          have hin : i < n := by omega
          have hic : i ≤ c := by omega
          have hc0 : ¬ c = 0 := by omega
          have hwr : IntKind.i64.wrap ((n : Int) - 1) = i := by
            rw [show (n : Int) - 1 = i by omega]
            exact IntWalk.i64_in _ (by omega)
          have HI := Lib.hid hi
          clear hrow hR hq hrg hgb hwin hxe hws hgbW hwl a1 a2 a3 hxn hi HN

          go_wp2_with fail
          rw [← hW, HXE.out ()]
          clear hW y0 y1 y2
          refine HP.out.mono ?_
          rintro e w5 ⟨rfl, hrow5, hfr5⟩

          have hwl5 := HWL.out.keptS hfr5 (by have := HA9.out; omega)
          obtain ⟨o5, cu5, f1, f2, f3, f4, f5, f6⟩ := id hwl5
          injection f1 with f1; injection f1 with _ f1; subst f1
          have c0 : w5.cell? ⟨gl, off + i, none⟩ = some (.int .i64 x) := by
            rw [cell_of_row w5 gl _ cu5 _ (0, 0) f4]
            simpa [List.getD, HI.out] using f6 i (by simp [HI.out])
          have HWL5 := Lib.hid hwl5; have HROW5 := Lib.hid hrow5; have HFR5 := Lib.hid hfr5
          clear hwl5 hrow5 hfr5 f2 f3 f4 f5 f6
          go_wp2_with fail
          have hrwx : RWX w w5 q (some ⟨gl, off, none⟩) c r := by
            have h1 := HQ9.out; have h2 := HWS.out; have hxe := HXE.out (); have h3 := HA9.out
            exact RWX.take (cur := W) h1.1 ⟨h1.2.1, by omega⟩ HR9.out HGB.out (.inr ⟨gl, h3.1, h3.2.1, h3.2.2, HWL.out⟩) HROW5.out HFR5.out (fun gl' h => by
              obtain ⟨o, cu, e, -⟩ := id h
              injection e with e; injection e with e; subst e
              exact h.front) (by simp)
          have HRW6 := Lib.hid hrwx
          have HN6 : Hid (i = r.length) := Lib.hid (HI.out.symm)
          have HL6 : Hid (r.length ≤ 30 + 2 * (j + 1)) := Lib.hid (by have := HL.out; simp at this; omega)
          clear hrwx
          clear c0 hn0 e1 e3 hin hic hc0 hwr

          obtain ⟨rg9, R9, first9, pr9, f9, hrow9, hR9, hq9, hrg9, hgb9, hwin9⟩ := HRW6.out
          have hlen9 := RLen_c hrow9
          rw [← HN6.out] at hlen9
          have HLEN9 := Lib.hid hlen9; have HALL9 := Lib.hid (All_c hrow9); have HLAT9 := Lib.hid HRW6.out.lat; have HGB9 := Lib.hid hgb9
          have hnn : ((i : Int) != (i : Int)) = false := by simp
          clear hrow9 hR9 hq9 hrg9 hgb9 hwin9 hlen9
          go_wp2_with fail
          refine HLEN9.out.mono ?_
          rintro e w9 ⟨rfl, rfl⟩
          go_wp2_with fail
          refine HALL9.out.mono ?_
          rintro e w10 ⟨p10, n10, c10, rfl, ⟨pz, cz, he, -, -, hi3⟩, -, hg10⟩
          injection he with e1 e2 e3; subst e1; subst e3
          have hs10 := RSame_c p10 (some ⟨gl, off, none⟩) c10 c (r) (r) w10 (by have := HN6.out; have := HL6.out; omega) hi3 (HLAT9.out.kept hg10)
          rw [decide_eq_true (rfl : (r) = (r)), ← e2] at hs10
          have e11 : n10 = i := e2.trans HN6.out.symm
          have HS10 := Lib.hid hs10; have HRW11 := Lib.hid (HRW6.out.kept hg10)
          subst e11
          clear hi3 hg10 hs10 e2 hnn
          go_wp2_with fail
          refine HS10.out.mono ?_
          rintro e w11 ⟨rfl, hg11⟩
          have HRW12 := Lib.hid (HRW11.out.kept hg11)
          clear hg11 x0 x1 x2
          go_wp2_with fail
          go_roundw
          case rel => exact ⟨j + 1, r, _, _, _, by omega, by go_num, rfl, HN6, Lib.hid (HL6.out), HRW12⟩
          case measure => simp [intOf]; omega
      by_cases k4 : Dj = 4
      · obtain ⟨rg, R, first, pr, f, hrow, hR, hq, hrg, hgb, hwin⟩ := HRW0.out
        have hxe := HXE.out ()
        have hws := HWS.out
        have hrow := hrow.kept HGW.out
        have hgbW := gb_trans hgb HGW.out
        have b1 : (Dj == 1) = false := beq_eq_false_iff_ne.2 k1
        have b2 : (Dj == 2) = false := beq_eq_false_iff_ne.2 k2
        have b3 : (Dj == 3) = false := beq_eq_false_iff_ne.2 k3
        have b4 : (Dj == 4) = true := beq_iff_eq.2 k4
        clear k1 k2 k3 k4

        have hp : Calls Try.prog 36 #[.pointer (some ⟨q, 0, none⟩), .slice none 0 0] W (PushPost q rg zs W) := by
          have h := Push_c none 0 [] (by have := HL.out; simp; omega) hR hrow (.inl rfl) (fun h => absurd rfl h)
          rw [List.append_nil] at h
          exact h
        have hqW := HRW.out.q.1
        have HP := Lib.hid hp; have HWIN := Lib.hid hwin; have HQ9 := Lib.hid (And.intro hq hrg); have HGBW := Lib.hid hgbW; have HQW := Lib.hid hqW
        clear hp hrow hR hq hrg hgb hwin hxe hws hgbW hqW
        go_wp2_with fail
        rw [← hW, HXE.out ()]
        clear hW y0 y1 y2
        refine HP.out.mono ?_
        rintro e w5 ⟨rfl, ⟨rg5, R5, first5, pr5, f5, hrow5, hR5, hrg5⟩, hfr5⟩
        have hwin := HWIN.out
        have hxe := HXE.out ()
        have hws := HWS.out
        have hrgl := HQ9.out.2
        have hqs := HQS.out
        have hqw := HQW.out
        have hsz5 := hfr5.size

        obtain ⟨gl, hgl, hwn⟩ : ∃ gl, (gl = w5.heap.size ∨ (gl ≠ q ∧ gl ≠ rg ∧ gl < W.heap.size ∧ w.heap.size ≤ gl)) ∧ WinN w5 w.heap.size p c gl zs := by
          rcases hwin with h | ⟨gl, a, b, cc, d⟩
          · exact ⟨w5.heap.size, .inl rfl, .inl h⟩
          · have h1 := d.lt
            have h2 := HGW.out.size
            exact ⟨gl, .inr ⟨b, cc, by omega, a⟩, .inr ⟨a, (d.keptS (S := fun _ => False) (Fr2.of (row := none) HGW.out (fun k e => by cases e)) (fun h => h)).keptS hfr5 (fun h => by omega)⟩⟩

        have hrl5 : rg5 < w5.heap.size := by
          rcases hrg5 with h | ⟨h, h3⟩
          · omega
          · exact (hrow5.ring.resolve_left (by omega)).2.2.lt
        have hrg6 : rg5 ≠ gl := by
          clear hwin
          rcases hgl with h | ⟨h1, h2, h3, h4⟩
          · omega
          · rcases hrg5 with h | ⟨h, -⟩
            · omega
            · omega
        have hgq6 : gl ≠ q := by
          clear hwin hrg5
          rcases hgl with h | ⟨h1, h2, h3, h4⟩
          · omega
          · exact h1
        have hrwx : RWX w w5 q p c zs := RWX.push (cur := W) (rg := rg) HQ9.out.1 ⟨hrgl.1, by omega⟩ HGBW.out hqw hgl ⟨rg5, R5, first5, pr5, f5, hrow5, hR5, hrg5, hrg6⟩ hfr5 hwn (Fr2.of (row := none) (gb_refl w5 none) (fun k e => by cases e)) hgq6
        have HRW6 := Lib.hid hrwx
        have HL6 : Hid (zs.length ≤ 30 + 2 * (j + 1)) := Lib.hid (by have := HL.out; omega)
        clear hrow5 hR5 hrg5 hfr5 hgl hwn hwin hxe hws hrgl hqs hqw hsz5 hrl5 hrwx hrg6 hgq6

        obtain ⟨rg9, R9, first9, pr9, f9, hrow9, hR9, hq9, hrg9, hgb9, hwin9⟩ := HRW6.out
        have hlen9 := RLen_c hrow9
        rw [← HN.out] at hlen9
        have HLEN9 := Lib.hid hlen9; have HALL9 := Lib.hid (All_c hrow9); have HLAT9 := Lib.hid HRW6.out.lat; have HGB9 := Lib.hid hgb9
        have hnn : ((n : Int) != (n : Int)) = false := by simp
        clear hrow9 hR9 hq9 hrg9 hgb9 hwin9 hlen9
        go_wp2_with fail
        refine HLEN9.out.mono ?_
        rintro e w9 ⟨rfl, rfl⟩
        go_wp2_with fail
        refine HALL9.out.mono ?_
        rintro e w10 ⟨p10, n10, c10, rfl, ⟨pz, cz, he, -, -, hi3⟩, -, hg10⟩
        injection he with e1 e2 e3; subst e1; subst e3
        have hs10 := RSame_c p10 p c10 c (zs) (zs) w10 (by have := HN.out; have := HL6.out; omega) hi3 (HLAT9.out.kept hg10)
        rw [decide_eq_true (rfl : (zs) = (zs)), ← e2] at hs10
        have e11 : n10 = n := e2.trans HN.out.symm
        have HS10 := Lib.hid hs10; have HRW11 := Lib.hid (HRW6.out.kept hg10)
        subst e11
        clear hi3 hg10 hs10 e2 hnn
        go_wp2_with fail
        refine HS10.out.mono ?_
        rintro e w11 ⟨rfl, hg11⟩
        have HRW12 := Lib.hid (HRW11.out.kept hg11)
        clear hg11 x0 x1 x2
        go_wp2_with fail
        go_roundw
        case rel => exact ⟨j + 1, zs, _, _, _, by omega, by go_num, rfl, HN, Lib.hid (HL6.out), HRW12⟩
        case measure => simp [intOf]; omega
      have b1 : (Dj == 1) = false := beq_eq_false_iff_ne.2 k1
      have b2 : (Dj == 2) = false := beq_eq_false_iff_ne.2 k2
      have b3 : (Dj == 3) = false := beq_eq_false_iff_ne.2 k3
      have b4 : (Dj == 4) = false := beq_eq_false_iff_ne.2 k4
      clear k1 k2 k3 k4
      obtain ⟨rg9, R9, first9, pr9, f9, hrow9, hR9, hq9, hrg9, hgb9, hwin9⟩ := HRW.out
      have hlen9 := RLen_c hrow9
      rw [← HN.out] at hlen9
      have HLEN9 := Lib.hid hlen9; have HALL9 := Lib.hid (All_c hrow9); have HLAT9 := Lib.hid HRW.out.lat; have HGB9 := Lib.hid hgb9
      have hnn : ((n : Int) != (n : Int)) = false := by simp
      clear hrow9 hR9 hq9 hrg9 hgb9 hwin9 hlen9
      go_wp2_with fail
      rw [← hW]
      clear hW y0 y1 y2
      refine HLEN9.out.mono ?_
      rintro e w9 ⟨rfl, rfl⟩
      go_wp2_with fail
      refine HALL9.out.mono ?_
      rintro e w10 ⟨p10, n10, c10, rfl, ⟨pz, cz, he, -, -, hi3⟩, -, hg10⟩
      injection he with e1 e2 e3; subst e1; subst e3
      have hs10 := RSame_c p10 p c10 c (zs) (zs) w10 (by have := HN.out; have := HL.out; omega) hi3 (HLAT9.out.kept hg10)
      rw [decide_eq_true (rfl : (zs) = (zs)), ← e2] at hs10
      have e11 : n10 = n := e2.trans HN.out.symm
      have HS10 := Lib.hid hs10; have HRW11 := Lib.hid (HRW.out.kept hg10)
      subst e11
      clear hi3 hg10 hs10 e2 hnn
      go_wp2_with fail
      refine HS10.out.mono ?_
      rintro e w11 ⟨rfl, hg11⟩
      have HRW12 := Lib.hid (HRW11.out.kept hg11)
      clear hg11 x0 x1 x2
      go_wp2_with fail
      go_roundw
      case rel => exact ⟨j + 1, zs, _, _, _, by omega, by go_num, rfl, HN, Lib.hid (by have := HL.out; omega), HRW12⟩
      case measure => simp [intOf]; omega
    · obtain rfl : j = m := by omega
      have HFIN := Lib.hid HRW.out.q.2
      go_wp2_with fail
      go_ret
      exact ⟨rfl, HFIN.out⟩
end Go.Proofs.Ytceehihdihemmaa
