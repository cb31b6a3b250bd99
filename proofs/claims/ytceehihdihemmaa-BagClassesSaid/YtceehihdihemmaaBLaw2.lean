/- The law on classes, walked. -/
import Derived.Test.YtceehihdihemmaaBRow
namespace Go.Proofs.Ytceehihdihemmaa
open Go.RowKit Mx

set_option maxRecDepth 100000 in
set_option maxHeartbeats 2000000 in
theorem JoinBad_c {w : World} {q g n : Nat} {f : Nat → Nat} {cnt : Int} (x y : Int) (hbad : ¬ ((0 ≤ x ∧ x < n) ∧ (0 ≤ y ∧ y < n))) (h : Cls w q g n f cnt) :
    Calls Try.prog 42 #[.pointer (some ⟨q, 0, none⟩), .int .i64 x, .int .i64 y] w (ValD (.tuple #[.bool false, .int .i64 12]) w) := by
  have HA := Lib.hid (has_c x h); have HB := Lib.hid (has_c y h)
  by_cases h1 : 0 ≤ x ∧ x < n
  · have h2 : ¬ (0 ≤ y ∧ y < n) := fun h => hbad ⟨h1, h⟩
    rw [decide_eq_true h1] at HA; rw [decide_eq_false h2] at HB
    clear h hbad h1 h2
    go_enter Try.func42, Try.ntmps42
    go_wp2_with fail
    refine HA.out.mono ?_
    rintro e w2 ⟨rfl, rfl⟩
    go_wp2_with fail
    refine HB.out.mono ?_
    rintro e w3 ⟨rfl, rfl⟩
    go_wp2_with fail
    go_ret2
    exact ⟨rfl, rfl⟩
  · rw [decide_eq_false h1] at HA
    clear h hbad h1 HB
    go_enter Try.func42, Try.ntmps42
    go_wp2_with fail
    refine HA.out.mono ?_
    rintro e w2 ⟨rfl, rfl⟩
    go_wp2_with fail
    go_ret2
    exact ⟨rfl, rfl⟩

set_option maxRecDepth 100000 in
theorem NewBad_c (x : Int) (hx : x < 0 ∨ 65536 < x) (w : World) : Calls Try.prog 41 #[.int .i64 x] w (ValD (.tuple #[.pointer none, .int .i64 12]) w) := by
  go_enter Try.func41, Try.ntmps41
  by_cases h0 : x < 0
  · have d1 : decide (x < 0) = true := decide_eq_true h0
    go_wp2_with fail
    go_ret2
    exact ⟨rfl, rfl⟩
  · have d1 : decide (x < 0) = false := decide_eq_false h0
    have d2 : decide (65536 < x) = true := decide_eq_true (by omega)
    go_wp2_with fail
    go_ret2
    exact ⟨rfl, rfl⟩

/-- The numbers below k. -/
def upto (k : Nat) : List Int := (List.range k).map fun j => ((j : Nat) : Int)
theorem upto_succ (k : Nat) : upto (k + 1) = upto k ++ [((k : Nat) : Int)] := by unfold upto; rw [List.range_succ, List.map_append]; rfl
theorem upto_len (k : Nat) : (upto k).length = k := by simp [upto]

theorem row_own {w : World} {base n : Nat} {v : Value} (h : OwnL w base v (upto n)) (hn : 0 < n) : ∃ gl cap, v = .slice (some ⟨gl, 0, none⟩) n cap ∧ base ≤ gl ∧ RowN w gl n cap id := by
  rcases h.2 with ⟨-, h0⟩ | ⟨g, cap, cur, he, hb, hg, hnc, hcm, hs, ht⟩
  · rw [upto_len] at h0; omega
  · rw [upto_len] at he hnc ht
    refine ⟨g, cap, he, hb, cur, _, hg, by simpa using hs, hnc, fun j hj => ?_⟩
    have e : (cur.toList.take (n * 1))[j]? = ((upto n).map (Value.int .i64))[j]? := by rw [ht]
    rw [List.getElem?_take, if_pos (by omega), Array.getElem?_toList] at e
    rw [e]
    simp [upto, hj]

theorem cells3 {w : World} {r : Nat} {u v z : Value} {T : TypeId} (h : w.heap[r]? = some (.cells #[u, v, z] T (0, 0))) : w.cell? ⟨r, 0, none⟩ = some u ∧ w.cell? ⟨r, 1, none⟩ = some v ∧ w.cell? ⟨r, 2, none⟩ = some z ∧ ∀ o, w.frozen? ⟨r, o, none⟩ = false :=
  ⟨by rw [cell_of_row w r 0 _ T (0, 0) h]; rfl, by rw [cell_of_row w r 1 _ T (0, 0) h]; rfl, by rw [cell_of_row w r 2 _ T (0, 0) h]; rfl, fun o => by simp [World.frozen?, h]⟩

/-- What the law's worlds keep. -/
structure CK (w0 wr : World) (q g n : Nat) (pl : Option Addr) (gl cap : Nat) (cnt : Int) (f : Nat → Nat) : Prop where
  cls : Cls wr q g n f cnt
  row : n = 0 ∨ (pl = some ⟨gl, 0, none⟩ ∧ RowN wr gl n cap (root f) ∧ gl ≠ q ∧ gl ≠ g ∧ w0.heap.size ≤ gl)
  gb : w0.grownBy wr none
  nq : w0.heap.size ≤ q
  ng : w0.heap.size ≤ g

theorem CK.kept {w0 wr w' : World} {q g n : Nat} {pl : Option Addr} {gl cap : Nat} {cnt : Int} {f : Nat → Nat} (h : CK w0 wr q g n pl gl cap cnt f) (hg : wr.grownBy w' none) : CK w0 w' q g n pl gl cap cnt f :=
  ⟨h.cls.kept hg, h.row.imp id fun ⟨h1, h2, h3⟩ => ⟨h1, h2.kept (S := fun _ => False) (Fr2.of hg (fun k e => by cases e)) (fun h => h), h3⟩, gb_trans h.gb hg, h.nq, h.ng⟩

theorem CK.find {w0 wr w' : World} {q g n : Nat} {pl : Option Addr} {gl cap : Nat} {cnt : Int} {f f' : Nat → Nat} (h : CK w0 wr q g n pl gl cap cnt f) (hc : Cls w' q g n f' cnt) (hr : ∀ j, root f' j = root f j) (hg : wr.grownBy w' (some g)) : CK w0 w' q g n pl gl cap cnt f' :=
  ⟨hc, h.row.imp id fun ⟨h1, h2, h3, h4, h5⟩ => ⟨h1, (h2.kept (S := fun k => k = g) (Fr2.of hg (fun k e => by simp at e; exact e.symm)) h4).congr fun j _ => (hr j).symm, h3, h4, h5⟩, below_gb (gb_new (gb_below h.gb) h.ng hg), h.nq, h.ng⟩

/-- Behind a Join of both. -/
theorem CK.join {w0 wr w1 w2 : World} {q g n : Nat} {pl : Option Addr} {gl cap : Nat} {cnt c' : Int} {f f' : Nat → Nat} {a b : Nat} (hn : 0 < n) (h : CK w0 wr q g n pl gl cap cnt f) (hc : Cls w1 q g n f' c') (hr : ∀ j, root f' j = joinR f a b j) (hg : Fr2 (fun k => k = q ∨ k = g) wr w1)
    (hl : RowN w2 gl n cap (fun j => if root f j = max (root f a) (root f b) then min (root f a) (root f b) else root f j)) (hg2 : w1.grownBy w2 (some gl)) : CK w0 w2 q g n pl gl cap c' f' := by
  obtain ⟨h1, h2, h3, h4, h5⟩ := h.row.resolve_left (by omega)
  obtain ⟨k1, k2, k3, k4⟩ := hc
  refine ⟨⟨(hg2.block _ (Array.getElem?_eq_some_iff.1 k1).1 (by simpa using h3.symm)).trans k1, k2.kept hg2 (by simpa using h4.symm), k3, k4⟩, .inr ⟨h1, hl.congr fun j _ => (hr j).symm, h3, h4, h5⟩, below_gb (gb_new (gb_below (Fr2.after h.gb hg fun i hi => ?_)) h5 hg2), h.nq, h.ng⟩
  rcases hi with rfl | rfl
  · exact h.nq
  · exact h.ng

theorem CK.row1 {w0 wr w1 : World} {q g n : Nat} {pl : Option Addr} {gl cap : Nat} {cnt : Int} {f : Nat → Nat} (hn : 0 < n) (h : CK w0 wr q g n pl gl cap cnt f) (hg : Fr2 (fun k => k = q ∨ k = g) wr w1) : pl = some ⟨gl, 0, none⟩ ∧ RowN w1 gl n cap (root f) := by
  obtain ⟨h1, h2, h3, h4, h5⟩ := h.row.resolve_left (by omega)
  exact ⟨h1, h2.kept hg (fun e => by rcases e with e | e <;> omega)⟩

set_option maxRecDepth 100000 in
set_option maxHeartbeats 8000000 in
theorem classes_c (x : Int) (po : Option Addr) (m co : Nat) (D K V : Nat → Int) (w : World) (hm : m ≤ co) (hml : m < 9223372036854775808) (hx1 : -9223372036854775808 ≤ x) (hx2 : x ≤ 9223372036854775807) (hops : OpsAt w po m D K V) :
    Calls Try.prog 7 #[.int .i64 x, .slice po m co] w (ValPost (.bool true) w) := by
  have HO := Lib.hid hops
  have HO0 := HO
  clear hops
  go_enter Try.func7, Try.ntmps7
  go_wp2_with fail
  refine (anchor_c _).mono ?_
  rintro e w1 ⟨rfl, g1⟩
  have G1 := Lib.hid g1
  have HO := Lib.hid (HO.out.kept g1)
  clear g1
  by_cases hA : 60 < x ∧ x ≤ 65536
  · have d1 : decide (60 < x) = true := decide_eq_true hA.1
    have d2 : decide (x ≤ 65536) = true := decide_eq_true hA.2
    go_wp2_with fail
    go_ret
    exact ⟨rfl, G1.out⟩
  by_cases hB : 100 < m
  · have d3 : decide ((100 : Int) < m) = true := decide_eq_true (by omega)
    by_cases h60 : 60 < x
    · have d1 : decide (60 < x) = true := decide_eq_true h60
      have d2 : decide (x ≤ 65536) = false := decide_eq_false (by omega)
      go_wp2_with fail
      go_ret
      exact ⟨rfl, G1.out⟩
    · have d1 : decide (60 < x) = false := decide_eq_false h60
      go_wp2_with fail
      go_ret
      exact ⟨rfl, G1.out⟩
  have d3 : decide ((100 : Int) < m) = false := decide_eq_false (by omega)
  by_cases hbig : 65536 < x
  · have d1 : decide (60 < x) = true := decide_eq_true (by omega)
    have d2 : decide (x ≤ 65536) = false := decide_eq_false (by omega)
    have d4 : decide (x < 0) = false := decide_eq_false (by omega)
    have d5 : decide (65536 < x) = true := decide_eq_true hbig
    have HN := Lib.hid (NewBad_c x (.inr hbig) w1)
    go_wp2_with fail
    refine HN.out.mono ?_
    rintro e w2 ⟨rfl, rfl⟩
    go_wp2_with fail
    go_ret
    exact ⟨rfl, G1.out⟩
  by_cases hneg : x < 0
  · have d1 : decide (60 < x) = false := decide_eq_false (by omega)
    have d4 : decide (x < 0) = true := decide_eq_true hneg
    have HN := Lib.hid (NewBad_c x (.inl hneg) w1)
    go_wp2_with fail
    refine HN.out.mono ?_
    rintro e w2 ⟨rfl, rfl⟩
    go_wp2_with fail
    go_ret
    exact ⟨rfl, G1.out⟩
  obtain ⟨n, rfl⟩ : ∃ n : Nat, x = n := ⟨x.toNat, by omega⟩
  have hn60 : n ≤ 60 := by omega
  have d1 : decide (60 < n) = false := decide_eq_false (by omega)
  have d1' : decide ((60 : Int) < (n : Int)) = false := decide_eq_false (by omega)
  have d4 : decide ((n : Int) < 0) = false := decide_eq_false (by omega)
  have d5 : decide ((65536 : Int) < (n : Int)) = false := decide_eq_false (by omega)
  have d5' : decide (65536 < n) = false := decide_eq_false (by omega)
  have hm100 : m ≤ 100 := by omega
  clear hA hB hbig hneg hx1 hx2
  go_wp2_with fail
  refine (NewClasses_c n (by omega) _).mono ?_
  rintro e w2 ⟨q, g, rfl, hcl, hg2, hq, hg⟩
  have HCL := Lib.hid hcl; have G2 := Lib.hid (gb_trans G1.out hg2); have HO := Lib.hid (HO.out.kept hg2)
  have HQ := Lib.hid (show w.heap.size ≤ q ∧ w.heap.size ≤ g by have := G1.out.size; omega)
  clear hcl hg2 hq hg G1
  go_wp2_with fail
  go_loopw [7, 54] (fun v i wr => ∃ k : Nat, k ≤ n ∧ i = .int .i64 k ∧ Hid (OwnL wr w2.heap.size v (upto k)) ∧ Hid (Below w2.heap.size w2 wr)) (fun _ i _ => n - (intOf i).toNat)
  case atStart => exact ⟨0, by omega, rfl, OwnL.nil w2 _, Below.refl _ _⟩
  case round =>
    obtain ⟨k, hk, rfl, HOW, HBE⟩ := hrel
    by_cases hlt : k < n
    · go_wp2_with (at_builtin; go_loud (refine wpList_appI (t := 22) Try.underlying22 rfl _ _ rfl w2.heap.size (upto k) k u7 rfl HOW.out _ rfl rfl (by rw [upto_len]; omega) HBE.out.size ?_))
      intro g' cap' w3 hO3 hB3
      have HO3 := Lib.hid (show OwnL w3 w2.heap.size _ (upto (k + 1)) from (upto_succ k) ▸ hO3)
      have HB3 := Lib.hid (Below.trans2 HBE.out hB3)
      clear hO3 hB3
      go_wp2_with fail
      go_roundw
      case rel => exact ⟨k + 1, by omega, by go_num, HO3, HB3⟩
      case measure => simp [intOf]; omega
    · obtain rfl : k = n := by omega
      obtain ⟨pl, gl, cl, rfl, hck⟩ : ∃ pl gl cl, u7 = .slice pl k cl ∧ CK w wr q g k pl gl cl k id := by
        have hcls := HCL.out.kept (below_gb HBE.out : w2.grownBy wr none)
        have hgb := gb_trans G2.out (below_gb HBE.out : w2.grownBy wr none)
        by_cases h0 : k = 0
        · rcases HOW.out.2 with ⟨e1, -⟩ | ⟨g0, cap, cur, e1, _⟩
          · exact ⟨none, 0, 0, by rw [e1, h0], hcls, .inl h0, hgb, HQ.out.1, HQ.out.2⟩
          · rw [upto_len] at e1
            exact ⟨_, 0, cap, e1, hcls, .inl h0, hgb, HQ.out.1, HQ.out.2⟩
        · obtain ⟨gl, cap, e1, e2, e3⟩ := row_own HOW.out (by omega)
          obtain ⟨b1, b2⟩ := HCL.out.bounds
          exact ⟨_, gl, cap, e1, hcls, .inr ⟨rfl, e3.congr fun j _ => (root_id j).symm, by omega, by omega, by have := HQ.out; omega⟩, hgb, HQ.out.1, HQ.out.2⟩
      have HCK := Lib.hid hck
      clear hck HOW HBE G2 HCL HO
      go_wp2_with fail
      go_loopw [9, 65] (fun cv i cur => ∃ (j : Nat) (f : Nat → Nat) (cnt : Int), j ≤ m ∧ i = .int .i64 j ∧ cv = .int .i64 cnt ∧ (k : Int) - j ≤ cnt ∧ cnt ≤ k ∧ Hid (CK w cur q g k pl gl cl cnt f)) (fun _ i _ => m - (intOf i).toNat)
      case atStart => exact ⟨0, id, k, by omega, rfl, rfl, by omega, by omega, HCK⟩
      case round =>
        clear HCK
        obtain ⟨j, f, cnt, hj, rfl, rfl, hc1, hc2, HCK⟩ := hrel
        by_cases hjm : j < m
        · obtain ⟨go, oo, rfl, hgo, hcell⟩ := HO0.out.resolve_left (by omega)
          obtain ⟨y0, y1, y2⟩ := hcell j hjm
          have y0 := HCK.out.gb.cell y0 (by simp); have y1 := HCK.out.gb.cell y1 (by simp); have y2 := HCK.out.gb.cell y2 (by simp)
          clear hcell
          generalize D j = Dj at *
          generalize K j = Kj at *
          generalize V j = Vj at *
          obtain ⟨hx, hxe⟩ : ∃ h, wr.heap.size = h := ⟨_, rfl⟩
          have hbx := heap_alloc_new wr (.cells #[.int .i64 Dj, .int .i64 Kj, .int .i64 Vj] 49)
          have hga := World.grownBy_alloc wr (.cells #[.int .i64 Dj, .int .i64 Kj, .int .i64 Vj] 49) none
          have hck2 := HCK.out.kept hga
          have hqg := HCK.out.cls.bounds
          have hgl : ∀ _ : 0 < k, gl < hx := fun h => by rw [← hxe]; exact (HCK.out.row.resolve_left (by omega)).2.1.lt
          rw [hxe] at hbx hqg
          obtain ⟨W, hW⟩ : ∃ W, W = wr.alloc (.cells #[.int .i64 Dj, .int .i64 Kj, .int .i64 Vj] 49) := ⟨_, rfl⟩
          rw [← hW] at hbx hck2
          have HCK := Lib.hid hck2; have HBX := Lib.hid hbx; have HQG := Lib.hid hqg; have HGL := Lib.hid hgl
          obtain ⟨x0, x1, x2, x3⟩ := cells3 HBX.out
          clear hbx hga hck2 hqg hgl
          by_cases hin : (0 ≤ Kj ∧ Kj < k) ∧ (0 ≤ Vj ∧ Vj < k)
          · obtain ⟨a, rfl⟩ : ∃ a : Nat, Kj = a := ⟨Kj.toNat, by omega⟩
            obtain ⟨b, rfl⟩ : ∃ b : Nat, Vj = b := ⟨Vj.toNat, by omega⟩
            have hak : a < k := by omega
            have hbk : b < k := by omega
            have hk0 : 0 < k := by omega
            have e1 : decide (a < k) = true := decide_eq_true hak
            have e2 : decide (b < k) = true := decide_eq_true hbk
            have HJ := Lib.hid (Join_c a b hak hbk (by omega) (by omega) (by omega) HCK.out.cls)
            clear hin
            go_wp2_with fail
            rw [← hW]
            clear hW y0 y1 y2
            refine HJ.out.mono ?_
            rintro e w4 ⟨rfl, ⟨f', hcls', hroot'⟩, hfr⟩
            have HCL' := Lib.hid hcls'; have HRT := Lib.hid hroot'; have HFR := Lib.hid hfr
            have hb4 := (hfr.block _ (Array.getElem?_eq_some_iff.1 HBX.out).1 (by have := HQG.out; omega)).trans HBX.out
            have HB4 := Lib.hid hb4
            obtain ⟨x0, x1, x2, x3⟩ := cells3 hb4
            obtain ⟨hpl, hrow⟩ := HCK.out.row1 hk0 hfr
            subst hpl
            have HRJ := Lib.hid (RJoin_c gl k cl (root f) a b w4 hak hbk (by omega) hrow)
            obtain ⟨jb, hjb⟩ : ∃ jb, decide (root f a ≠ root f b) = jb := ⟨_, rfl⟩
            rw [hjb]
            have HJB := Lib.hid hjb
            have hjj : (jb != jb) = false := by simp
            clear hcls' hroot' hfr hb4 hrow hjb
            go_wp2_with fail
            refine HRJ.out.mono ?_
            rintro e w5 ⟨rfl, hl5, hg5⟩
            rw [HJB.out]
            have HCK2 := Lib.hid (CK.join hk0 HCK.out HCL'.out HRT.out HFR.out hl5 hg5)
            have hb5 := (hg5.block _ (Array.getElem?_eq_some_iff.1 HB4.out).1 (by have := HGL.out hk0; simp; omega)).trans HB4.out
            obtain ⟨x0, x1, x2, x3⟩ := cells3 hb5
            clear hl5 hg5 hb5
            cases jb with
            | true =>
              have HCE : Hid ((if root f a = root f b then cnt else cnt - 1) = cnt - 1) := Lib.hid (if_neg (by have := of_decide_eq_true HJB.out; exact this))
              have hwr : IntKind.i64.wrap (cnt - 1) = cnt - 1 := IntWalk.i64_in _ (by omega)
              go_wp2_with fail
              refine (Count_c HCK2.out.cls).mono ?_
              rintro e w6 ⟨rfl, rfl⟩
              rw [HCE.out]
              have hcc : ((cnt - 1) != (cnt - 1)) = false := by simp
              clear x0 x1 x2
              go_wp2_with fail
              go_roundw
              case rel => exact ⟨j + 1, f', (cnt - 1), by omega, by go_num, rfl, by omega, by omega, HCE.out ▸ HCK2⟩
              case measure => simp [intOf]; omega
            | false =>
              have HCE : Hid ((if root f a = root f b then cnt else cnt - 1) = cnt) := Lib.hid (if_pos (by have := of_decide_eq_false HJB.out; omega))
              go_wp2_with fail
              refine (Count_c HCK2.out.cls).mono ?_
              rintro e w6 ⟨rfl, rfl⟩
              rw [HCE.out]
              have hcc : (cnt != cnt) = false := by simp
              clear x0 x1 x2
              go_wp2_with fail
              go_roundw
              case rel => exact ⟨j + 1, f', cnt, by omega, by go_num, rfl, by omega, by omega, HCE.out ▸ HCK2⟩
              case measure => simp [intOf]; omega
          · have HJ := Lib.hid (JoinBad_c Kj Vj hin HCK.out.cls)
            go_wp2_with fail
            rw [← hW]
            clear hW y0 y1 y2
            refine HJ.out.mono ?_
            rintro e w4 ⟨rfl, rfl⟩
            by_cases h1 : 0 ≤ Kj
            · by_cases h2 : Kj < k
              · by_cases h3 : 0 ≤ Vj
                · have h4 : ¬ Vj < k := fun h => hin ⟨⟨h1, h2⟩, h3, h⟩
                  have d1 : decide (0 ≤ Kj) = true := decide_eq_true h1
                  have d2 : decide (Kj < k) = true := decide_eq_true h2
                  have d3 : decide (0 ≤ Vj) = true := decide_eq_true h3
                  have d4 : decide (Vj < k) = false := decide_eq_false h4
                  clear h1 h2 h3 h4 hin
                  go_wp2_with fail
                  refine (Count_c HCK.out.cls).mono ?_
                  rintro e w5 ⟨rfl, rfl⟩
                  have hcc : (cnt != cnt) = false := by simp
                  clear x0 x1 x2
                  go_wp2_with fail
                  go_roundw
                  case rel => exact ⟨j + 1, f, cnt, by omega, by go_num, rfl, by omega, by omega, HCK⟩
                  case measure => simp [intOf]; omega
                · have d1 : decide (0 ≤ Kj) = true := decide_eq_true h1
                  have d2 : decide (Kj < k) = true := decide_eq_true h2
                  have d3 : decide (0 ≤ Vj) = false := decide_eq_false h3
                  clear h1 h2 h3 hin
                  go_wp2_with fail
                  refine (Count_c HCK.out.cls).mono ?_
                  rintro e w5 ⟨rfl, rfl⟩
                  have hcc : (cnt != cnt) = false := by simp
                  clear x0 x1 x2
                  go_wp2_with fail
                  go_roundw
                  case rel => exact ⟨j + 1, f, cnt, by omega, by go_num, rfl, by omega, by omega, HCK⟩
                  case measure => simp [intOf]; omega
              · have d1 : decide (0 ≤ Kj) = true := decide_eq_true h1
                have d2 : decide (Kj < k) = false := decide_eq_false h2
                clear h1 h2 hin
                go_wp2_with fail
                refine (Count_c HCK.out.cls).mono ?_
                rintro e w5 ⟨rfl, rfl⟩
                have hcc : (cnt != cnt) = false := by simp
                clear x0 x1 x2
                go_wp2_with fail
                go_roundw
                case rel => exact ⟨j + 1, f, cnt, by omega, by go_num, rfl, by omega, by omega, HCK⟩
                case measure => simp [intOf]; omega
            · have d1 : decide (0 ≤ Kj) = false := decide_eq_false h1
              clear h1 hin
              go_wp2_with fail
              refine (Count_c HCK.out.cls).mono ?_
              rintro e w5 ⟨rfl, rfl⟩
              have hcc : (cnt != cnt) = false := by simp
              clear x0 x1 x2
              go_wp2_with fail
              go_roundw
              case rel => exact ⟨j + 1, f, cnt, by omega, by go_num, rfl, by omega, by omega, HCK⟩
              case measure => simp [intOf]; omega
        · obtain rfl : j = m := by omega
          clear HO0
          go_wp2_with fail
          go_loopw [132] (fun i cur => ∃ (t : Nat) (f : Nat → Nat), t ≤ k ∧ i = .int .i64 t ∧ Hid (CK w cur q g k pl gl cl cnt f)) (fun i _ => k - (intOf i).toNat)
          case atStart => exact ⟨0, f, by omega, rfl, HCK⟩
          case round =>
            clear HCK
            obtain ⟨t, f, ht, rfl, HCK⟩ := hrel
            by_cases htk : t < k
            · go_wp2_with fail
              refine (Find_c (t : Int) (by omega) HCK.out.cls).mono ?_
              rintro e w4 ⟨rfl, f', hcls', hroot', hg4⟩
              rw [if_pos (by omega), if_pos (by omega), Int.toNat_natCast]
              have HCK2 := Lib.hid (HCK.out.find hcls' hroot' hg4)
              obtain ⟨hpl, hrow⟩ := HCK2.out.row1 (by omega) (Fr2.refl _ _)
              subst hpl
              have hcr := hrow.cell htk
              rw [hroot' t] at hcr
              have hcc : (((root f t : Nat) : Int) != ((root f t : Nat) : Int)) = false := by simp
              clear hcls' hroot' hg4 hrow HCK
              go_wp2_with fail
              go_roundw
              case rel => exact ⟨t + 1, f', by omega, by go_num, HCK2⟩
              case measure => simp [intOf]; omega
            · obtain rfl : t = k := by omega
              go_wp2_with fail
              refine (Find_c (t : Int) (by omega) HCK.out.cls).mono ?_
              rintro e w4 ⟨rfl, f', hcls', hroot', hg4⟩
              rw [if_neg (by omega), if_neg (by omega)]
              have HCK2 := Lib.hid (HCK.out.find hcls' hroot' hg4)
              clear hcls' hroot' hg4 HCK
              go_wp2_with fail
              refine (Find_c (-1) (by omega) HCK2.out.cls).mono ?_
              rintro e w5 ⟨rfl, f2, hcls', hroot', hg4⟩
              rw [if_neg (by omega), if_neg (by omega)]
              have HFIN := Lib.hid (HCK2.out.find hcls' hroot' hg4).gb
              clear hcls' hroot' hg4 HCK2
              go_wp2_with fail
              go_ret
              exact ⟨rfl, HFIN.out⟩
end Go.Proofs.Ytceehihdihemmaa
