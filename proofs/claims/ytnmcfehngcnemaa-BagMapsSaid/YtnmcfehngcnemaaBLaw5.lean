/- The law on maps, walked. -/
import Derived.Test.YtnmcfehngcnemaaBMap9
import Derived.Deep.RegionLaw
import Derived.Deep.CutBlock
import Derived.Deep.CutRange
import Derived.Deep.DeepCutAuto
namespace Go.Proofs.Ytnmcfehngcnemaa
open Go.RowKit Mx

theorem cells3m {w : World} {r : Nat} {u v z : Value} {T : TypeId} (h : w.heap[r]? = some (.cells #[u, v, z] T (0, 0))) : w.cell? ⟨r, 0, none⟩ = some u ∧ w.cell? ⟨r, 1, none⟩ = some v ∧ w.cell? ⟨r, 2, none⟩ = some z :=
  ⟨by rw [cell_of_row w r 0 _ T (0, 0) h]; rfl, by rw [cell_of_row w r 1 _ T (0, 0) h]; rfl, by rw [cell_of_row w r 2 _ T (0, 0) h]; rfl⟩

theorem MapAt.keptB {w w' : World} {q b n b2 : Nat} {l : List (Int × Int)} (h : MapAt w q b n l) (hg : w.grownBy w' (some b2)) (h1 : q ≠ b2) (h2 : b ≠ b2) : MapAt w' q b n l :=
  ⟨(hg.block _ (Array.getElem?_eq_some_iff.1 h.box).1 (by simpa using h1)).trans h.box, h.ne, h.own.kept hg (by simpa using h2), h.asc⟩

theorem MapAt.mono {w : World} {q b n n' : Nat} {l : List (Int × Int)} (h : MapAt w q b n l) (hn : n ≤ n') : MapAt w q b n' l := ⟨h.box, h.ne, h.own.mono hn, h.asc⟩

theorem PAt.take {w : World} {p : Option Addr} {l : List (Int × Int)} (h : PAt w p l) (j : Nat) : PAt w p (l.take j) := by
  rcases h with rfl | ⟨g, off, rfl, hl, hc⟩
  · exact .inl (by simp)
  · refine .inr ⟨g, off, rfl, hl, fun i hi => ?_⟩
    rw [List.length_take] at hi
    have h1 := hc i (by omega)
    have e : (l.take j).getD i (0, 0) = l.getD i (0, 0) := by
      simp only [List.getD]
      rw [List.getElem?_take, if_pos (by omega)]
    rw [e]
    exact h1

theorem PAt.drop {w : World} {g off : Nat} {l : List (Int × Int)} (h : PAt w (some ⟨g, off, none⟩) l) (j : Nat) : PAt w (some ⟨g, off + j * 2, none⟩) (l.drop j) := by
  rcases h with rfl | ⟨g', off', e, hl, hc⟩
  · exact .inl (by simp)
  · injection e with e; injection e with e1 e2
    subst e1; subst e2
    refine .inr ⟨g, off + j * 2, rfl, hl, fun i hi => ?_⟩
    rw [List.length_drop] at hi
    have h1 := hc (j + i) (by omega)
    have e : (l.drop j).getD i (0, 0) = l.getD (j + i) (0, 0) := by
      simp only [List.getD]
      rw [List.getElem?_drop]
    rw [e, show off + j * 2 + i * 2 = off + (j + i) * 2 by omega]
    exact h1

theorem step_appPL {t : TypeId} (ht : Try.prog.underlying t = some (.slice 57))
    {w0 : World} {ops : Array Oper} {o : Oper} {a : Act} {K : Act → World → Prop} {Q : Exit → Act → World → Prop} {E : Prop} (hgd : o.guard = none) (s x : Operand) (ho : o.op = .call { callee := .builtin .append, args := #[s, x], argTypes := #[t, t] })
    (base : Nat) (l r : List (Int × Int)) (p : Option Addr) (c : Nat) (v : Value) (hs : a.eval s = v) (hown : OwnP w0 base v l) (hy : PAt w0 p r) (m : Nat) (hm : r.length = m) (hx : a.eval x = .slice p m c) (hn : l.length ≤ 1000000) (hn2 : r.length ≤ 1000000) (hbase : base ≤ w0.heap.size)
    (K' : ∀ p' n' c' w', n' = l.length + r.length → OwnP w' base (.slice p' n' c') (l ++ r) → Below base w0 w' → w0.grownBy w' v.ownBlock → K (a.put o.dst (.slice p' n' c')) w') :
    if Region.wanted o (yielded ops a.tmps) = true then Oper.wp Try.prog o a w0 K Q else E := by
  subst hm
  obtain ⟨i0, hi, hi0, hi1, hi2⟩ := infoP_parts
  by_cases h0 : r = []
  · subst h0
    obtain ⟨p', c', rfl, -⟩ := hown.shape
    have hw : Region.wanted o (yielded ops a.tmps) = true := by simp [Region.wanted, hgd]
    rw [if_pos hw]
    have hrun := run_append_zero (P := Try.prog) (w := w0) base t o.type 57 i0 2 ht hi _ _ _ hown p c
    unfold Oper.wp
    simp [execOp, ho, resolve, invoke, builtin, hs, hx, hrun, Result.andThen]
    exact K' p' _ c' w0 rfl (by simpa [OwnP] using hown) (Below.refl _ _) (gb_refl _ _)
  · obtain ⟨g, off, rfl, hg, hc⟩ := hy.resolve_left h0
    have hpos : 0 < r.length := List.length_pos_iff.2 h0
    refine step_append_lies (P := Try.prog) w0 hgd s x t ho base 57 i0 (.agg #[.int .i64 0, .int .i64 0]) 2 16 ht hi hi0 hi1 hi2 rfl (by decide) v l.length (cellsP l) hs hown ⟨g, off, none⟩ r.length c (cellsP r) hx (by rw [cellsP_len]) ?_ ?_ hpos (by unfold maxLen; omega) (by omega) hbase w0.heap.size rfl ?_
    · intro j u hj
      have hjn : j < r.length * 2 := by
        have := (List.getElem?_eq_some_iff.1 hj).1
        rwa [cellsP_len] at this
      obtain ⟨i, hi⟩ : ∃ i, j = i * 2 ∨ j = i * 2 + 1 := ⟨j / 2, by omega⟩
      obtain ⟨g1, g2⟩ := cellsP_get r i (by omega)
      obtain ⟨c1, c2⟩ := hc i (by omega)
      rw [Addr.add_lit]
      rcases hi with rfl | rfl
      · rw [c1]; rw [g1] at hj; exact hj
      · rw [← Nat.add_assoc, c2]; rw [g2] at hj; exact hj
    · intro u hu; obtain ⟨x, rfl⟩ := cellsP_one r u hu; rfl
    · intro g' cap' w' h3 h4 h5 _
      exact K' _ _ cap' w' rfl (by simpa [OwnP, cellsP_append] using h3) (below_own hown hbase h4) h4

set_option maxRecDepth 100000 in
set_option maxHeartbeats 32000000 in
theorem maps_yes (po : Option Addr) (m co : Nat) (D K V : Nat → Int) (w : World) (hm : m ≤ co) (hml : m ≤ 100) (hops : OpsAt w po m D K V) (hK : ∀ j, -9223372036854775808 ≤ K j ∧ K j ≤ 9223372036854775807) :
    Calls Try.prog 5 #[.slice po m co] w (ValPost (.bool true) w) := by
  have HO := Lib.hid hops
  have HKB := Lib.hid (fun j => (show (Lit.int .i64 (K j)).wf = true from by have := hK j; simp [Lit.wf, IntKind.min, IntKind.max, IntKind.signed, IntKind.bits]; omega))
  have d1 : decide ((100 : Int) < m) = false := decide_eq_false (by omega)
  have d1' : decide (100 < m) = false := decide_eq_false (by omega)
  clear hops hK
  go_enter Try.func5, Try.ntmps5
  go_wp2_with fail
  refine (anchor_c _).mono ?_
  rintro e w1 ⟨rfl, g1⟩
  have G1 := Lib.hid g1
  clear g1
  go_wp2_with fail
  refine (NewMap_c w1).mono ?_
  rintro e w2 ⟨q0, b0, rfl, hmap, hq0, hb0, hg2⟩
  have HMX0 : Hid (MX w w2 q0 b0 0 (.slice none 0 0) []) := Lib.hid ⟨hmap, Nat.le_refl _, Nat.le_trans G1.out.size hq0, Nat.le_trans G1.out.size hb0, OwnP.nil _ _, gb_trans G1.out hg2⟩
  clear hmap hq0 hb0 hg2 G1 d1 d1'
  go_wp2_with fail
  go_loopw [3, 4, 25] (fun mv lv iv wr => ∃ (k q b N : Nat) (p : Option Addr) (c : Nat) (l : List (Int × Int)), k ≤ m ∧ iv = .int .i64 k ∧ mv = .pointer (some ⟨q, 0, none⟩) ∧ lv = .slice p N c ∧ Hid (l.length = N) ∧ Hid (MX w wr q b k (.slice p N c) l)) (fun _ _ i _ => m - (intOf i).toNat)
  case atStart => exact ⟨0, q0, b0, 0, none, 0, [], by omega, rfl, rfl, rfl, Lib.hid rfl, HMX0⟩
  case round =>
    clear HMX0
    obtain ⟨k, q, b, N, p, c, l, hk, rfl, rfl, rfl, HN, HM⟩ := hrel
    by_cases hlt : k < m
    · obtain ⟨g, off, rfl, hgl, hc⟩ := HO.out.resolve_left (by omega)
      obtain ⟨c0, c1, c2⟩ := hc k hlt
      obtain ⟨dk, hdk⟩ : ∃ x, D k = x := ⟨_, rfl⟩
      obtain ⟨kk, hkk⟩ : ∃ x, K k = x := ⟨_, rfl⟩
      obtain ⟨vk, hvk⟩ : ∃ x, V k = x := ⟨_, rfl⟩
      rw [hdk] at c0; rw [hkk] at c1; rw [hvk] at c2
      have HKK : Hid ((Lit.int .i64 kk).wf = true) := Lib.hid (by rw [← hkk]; exact HKB.out k)
      have c0 := HM.out.gb.cell c0 (by simp)
      have c1 := HM.out.gb.cell c1 (by simp)
      have c2 := HM.out.gb.cell c2 (by simp)
      have hga := World.grownBy_alloc wr (.cells #[.int .i64 dk, .int .i64 kk, .int .i64 vk] 49) none
      have HBX := Lib.hid (heap_alloc_new wr (.cells #[.int .i64 dk, .int .i64 kk, .int .i64 vk] 49))
      have HM1 := Lib.hid (HM.out.kept hga)
      obtain ⟨x0, x1, x2⟩ := cells3m HBX.out
      have hlk : l.length ≤ 100 := Nat.le_trans HM.out.len (by omega)
      obtain ⟨p1, c1', hv1, -, -, hpa, -⟩ := HM1.out.row.shape
      rw [HN.out] at hv1
      injection hv1 with e1 _ e3
      subst e1; subst e3
      have hget := RGet_c p c l kk (wr.alloc (.cells #[.int .i64 dk, .int .i64 kk, .int .i64 vk] 49)) (by omega) hpa
      rw [HN.out] at hget
      have HGET := Lib.hid hget; have HPA := Lib.hid hpa; have HLK := Lib.hid hlk
      clear hc hgl hdk hkk hvk hga hget hpa HM
      go_wp2_with fail
      generalize wr.alloc (.cells #[.int .i64 dk, .int .i64 kk, .int .i64 vk] 49) = W1 at *
      generalize wr.heap.size = ob at *
      refine HGET.out.mono ?_
      rintro e w3 ⟨⟨gi, rfl, hgi⟩, rfl⟩
      have HGI := Lib.hid hgi
      clear hgi HGET
      go_upto_block 2 with fail
      go_cut [3, 4, 8, 9, 10, 11, 12, 25] from 25 to 179 (fun t3 t4 t8 t9 t10 t11 t12 t25 wx => t25 = .int .i64 (k : Nat) ∧ ∃ (q2 b2 N2 : Nat) (p2 : Option Addr) (c2 : Nat) (l2 : List (Int × Int)), t3 = .pointer (some ⟨q2, 0, none⟩) ∧ t4 = .slice p2 N2 c2 ∧ Hid (l2.length = N2) ∧ Hid (MX w wx q2 b2 (k + 1) (.slice p2 N2 c2) l2))
      case first =>
        by_cases k1 : dk = 1
        · subst k1
          have HPUT := Lib.hid (MPut_c kk vk (by omega) HKK.out HM1.out.map)
          clear c0 c1 c2
          go_wp2_with fail
          refine HPUT.out.mono ?_
          rintro e w4 ⟨rfl, hmap4, hg4⟩
          obtain ⟨hrow4, hgw4⟩ := HM1.out.turn hg4
          have hbox4 : w4.heap[ob]? = some (.cells #[.int .i64 1, .int .i64 kk, .int .i64 vk] 49 (0, 0)) := (hg4.block _ (Array.getElem?_eq_some_iff.1 HBX.out).1 (by
            intro e; injection e with e; subst e
            obtain ⟨es, clock, hb, -⟩ := HM1.out.map.own
            rw [HBX.out] at hb; cases hb)).trans HBX.out
          obtain ⟨y0, y1, y2⟩ := cells3m hbox4
          have hpa4 : PAt w4 p l := by
            obtain ⟨p1, c1', hv1, -, -, hpa, -⟩ := hrow4.shape
            injection hv1 with e1 _ e3
            subst e1
            exact hpa
          have hset := RSet_c p c l kk vk w4 (by have := HLK.out; omega) HM1.out.map.asc hpa4
          rw [HN.out] at hset
          obtain ⟨hh, hhe⟩ : ∃ hh, hasL l kk = hh := ⟨_, rfl⟩
          have HSET := Lib.hid hset
          have HMAP4 := Lib.hid hmap4; have HGW4 := Lib.hid hgw4; have HHE := Lib.hid hhe
          rw [hhe]
          clear hset hmap4 hgw4 hrow4 hpa4 hg4 hbox4 hhe x0 x1 x2 HPUT
          go_wp2_with fail
          refine HSET.out.mono ?_
          rintro e w5 ⟨p5, n5, c5, rfl, hown5, hg5⟩
          rw [HHE.out]
          obtain ⟨l2, hl2⟩ : ∃ l2, putL l kk vk = l2 := ⟨_, rfl⟩
          have hlen2 : l2.length ≤ k + 1 := by rw [← hl2]; exact putL_len2 l kk vk k HM1.out.len
          rw [hl2] at hown5
          have hmp : MapAt w5 q b (k + 1) l2 := hl2 ▸ HMAP4.out.kept hg5
          have HMX : Hid (MX w w5 q b (k + 1) (.slice p5 n5 c5) l2) := Lib.hid ⟨hmp, hlen2, HM1.out.hq, HM1.out.hb, ownsRow_base_a hown5 HGW4.out.size, gb_trans HGW4.out hg5⟩
          clear hown5 hg5 hmp hlen2 hl2 HSET HMAP4 HGW4 HM1 y0 y1 y2
          have hhh : ((!hh) != (!hh)) = false := by simp
          go_wp2_with fail
          go_meet
          exact ⟨rfl, _, _, _, _, _, l2, rfl, rfl, Lib.hid HMX.out.row.len.symm, HMX⟩
        by_cases k2 : dk = 2
        · subst k2
          have HDR := Lib.hid (MDrop_c kk HKK.out HM1.out.map)
          clear c0 c1 c2
          rcases HGI.out with ⟨rfl, hno⟩ | ⟨j, rfl, hj, hjk, -⟩
          · have hnoL : ∀ j, j < l.length → (l.getD j (0, 0)).1 ≠ kk := fun j hj => hno j (by rw [← HN.out]; exact hj)
            obtain ⟨g1, g2, -⟩ := get_none hnoL
            rw [g1, g2] at HDR
            clear hno hnoL g1 g2 HGI
            go_wp2_with fail
            refine HDR.out.mono ?_
            rintro e w4 ⟨rfl, hmap4, hg4⟩
            obtain ⟨hrow4, hgw4⟩ := HM1.out.turn hg4
            obtain ⟨l2, hl2⟩ : ∃ l2, l2 = l := ⟨_, rfl⟩
            have HMX : Hid (MX w w4 q b (k + 1) (.slice p N c) l2) := Lib.hid (by rw [hl2]; exact ⟨hmap4.mono (by omega), Nat.le_succ_of_le HM1.out.len, HM1.out.hq, HM1.out.hb, hrow4, hgw4⟩)
            clear hmap4 hg4 hrow4 hgw4 hl2 HDR HM1 x0 x1 x2
            go_wp2_with fail
            go_meet
            exact ⟨rfl, _, _, _, _, _, l2, rfl, rfl, Lib.hid HMX.out.row.len.symm, HMX⟩
          · have hjl : j < l.length := by rw [HN.out]; exact hj
            obtain ⟨g1, g2, -⟩ := get_some HM1.out.map.asc hjl hjk
            rw [g1] at HDR
            have hgd : decide ((0 : Int) ≤ (j : Int)) = true := decide_eq_true (by omega)
            have hwj : IntKind.i64.wrap ((j : Int) + 1) = (j : Int) + 1 := IntWalk.i64_in _ (by have := HLK.out; omega)
            have HDL := Lib.hid g2
            clear g1 g2 hjk HGI
            go_wp2_with fail
            refine HDR.out.mono ?_
            rintro e w4 ⟨rfl, hmap4, hg4⟩
            obtain ⟨hrow4, hgw4⟩ := HM1.out.turn hg4
            have HMAP4 := Lib.hid hmap4; have HGW4 := Lib.hid hgw4; have HROW4 := Lib.hid hrow4
            have hnc : N ≤ c ∧ c ≤ maxLen := by
              obtain ⟨p1, c1', hv1, h3, h4, -, -⟩ := hrow4.shape
              injection hv1 with e1 e2 e3
              have := HN.out
              omega
            clear hmap4 hg4 hrow4 hgw4 HDR x0 x1 x2
            obtain ⟨pl2, cl2, hv4, -, -, hpa4, hblk4⟩ := HROW4.out.shape
            rw [HN.out] at hv4
            injection hv4 with e1 e2 e3
            subst e1; subst e3
            have hne : l ≠ [] := fun h => by rw [h] at hjl; simp at hjl
            obtain ⟨gl, ol, rfl, hgll, hcl⟩ := hpa4.resolve_left hne
            have hpa4 : PAt w4 (some ⟨gl, ol, none⟩) l := .inr ⟨gl, ol, rfl, hgll, hcl⟩
            have HTK := Lib.hid (hpa4.take j)
            have hgb0 := World.grownBy_alloc w4 (.cells #[] 57) none
            have hown0 : OwnP (w4.alloc (.cells #[] 57)) w4.heap.size (.slice (some ⟨w4.heap.size, 0, none⟩) 0 0) [] := World.ownsRow_made w4 #[] 0 (Nat.le_refl _) (by unfold maxLen; omega) rfl
            have HOWN0 := Lib.hid hown0; have HGB0 := Lib.hid hgb0; have HPA4 := Lib.hid hpa4
            have HTL : Hid ((l.take j).length = j ∧ (l.drop (j + 1)).length = N - (j + 1)) := Lib.hid ⟨by rw [List.length_take]; omega, by rw [List.length_drop, HN.out]⟩
            have HG0S : Hid (w4.heap.size ≤ (w4.alloc (.cells #[] 57)).heap.size) := Lib.hid hgb0.size
            have HLLK : Hid (l.length ≤ 1000000) := Lib.hid (by have := HLK.out; omega)
            have hjc : j ≤ c := by omega
            have hj1 : j + 1 ≤ N := by omega
            clear hown0 hgb0 hpa4 hne hgll hcl hblk4 e2
            by_cases hcj : c = j + 1
            · obtain rfl : N = j + 1 := by omega
              subst hcj
              have hq0 : (j : Int) ≤ (j : Int) + 1 := by omega
              have hq1 : (0 : Int) ≤ (j : Int) + 1 := by omega
              go_wp2_with fail
              go_region_law (first
                | (refine step_appPL (t := 47) Try.underlying47 rfl _ _ rfl w4.heap.size [] (l.take j) (some ⟨gl, ol, none⟩) (j + 1) (.slice (some ⟨w4.heap.size, 0, none⟩) 0 0) rfl (HOWN0.out.kept (gb_drew (gb_refl _ _))) ((HTK.out.kept HGB0.out).kept (gb_drew (gb_refl _ _))) j HTL.out.1 rfl (by simp) (by have := HTL.out.1; have := HLLK.out; omega) HG0S.out ?_; intro pA nA cA wA hnA hOA hBA hFA; have HNA := Lib.hid hnA; have HOA := Lib.hid hOA; have HGWA : Hid (w4.grownBy wA none) := Lib.hid (below_gb (Below.trans2 (Below.gb (gb_drew (World.grownBy_alloc w4 _ none)) (Nat.le_refl _)) hBA)); have HPD := Lib.hid (show PAt wA (some ⟨gl, ol, none⟩) (l.drop (j + 1)) from .inl (List.eq_nil_of_length_eq_zero (by rw [HTL.out.2]; omega))); clear hnA hOA hBA hFA)
                | (refine step_appPL (t := 47) Try.underlying47 rfl _ _ rfl w4.heap.size ([] ++ l.take j) (l.drop (j + 1)) (some ⟨gl, ol, none⟩) 0 _ rfl HOA.out HPD.out 0 (by rw [HTL.out.2]; omega) rfl (by rw [List.nil_append]; have := HTL.out.1; have := HLLK.out; omega) (by rw [List.length_drop]; have := HLLK.out; omega) HGWA.out.size ?_; intro pB nB cB wB hnB hOB hBB hFB; have HNB := Lib.hid hnB; have HOB := Lib.hid hOB; have HGWB : Hid (w4.grownBy wB none) := Lib.hid (below_gb (Below.trans2 (gb_below HGWA.out) hBB)); clear hnB hOB hBB hFB))
              all_goals
                obtain ⟨l2, hl2⟩ : ∃ l2, delL l kk = l2 := ⟨_, rfl⟩
                have hlen2 : l2.length ≤ k := by rw [← hl2]; exact Nat.le_trans (delL_len l kk) HM1.out.len
                have hown2 : OwnP wB w.heap.size (.slice pB nB cB) l2 := by
                  rw [← hl2, ← HDL.out]
                  exact ownsRow_base_a HOB.out HGW4.out.size
                have HMX : Hid (MX w wB q b (k + 1) (.slice pB nB cB) l2) := Lib.hid ⟨hl2 ▸ (HMAP4.out.kept HGWB.out).mono (Nat.le_succ k), Nat.le_succ_of_le hlen2, HM1.out.hq, HM1.out.hb, hown2, gb_trans HGW4.out HGWB.out⟩
                clear hl2 hlen2 hown2 HMAP4 HM1 HOB HGWB HOA HGWA HPD HTK HOWN0 HGB0 HPA4
                go_wp2_with fail
                go_meet
                exact ⟨rfl, _, _, _, _, _, l2, rfl, rfl, Lib.hid HMX.out.row.len.symm, HMX⟩
            · have hq1 : (0 : Int) ≤ (j : Int) + 1 := by omega
              have hq2 : (j : Int) + 1 ≤ (N : Int) := by omega
              go_wp2_with fail
              go_region_law (first
                | (refine step_appPL (t := 47) Try.underlying47 rfl _ _ rfl w4.heap.size [] (l.take j) (some ⟨gl, ol, none⟩) c (.slice (some ⟨w4.heap.size, 0, none⟩) 0 0) rfl (HOWN0.out.kept (gb_drew (gb_refl _ _))) ((HTK.out.kept HGB0.out).kept (gb_drew (gb_refl _ _))) j HTL.out.1 rfl (by simp) (by have := HTL.out.1; have := HLLK.out; omega) HG0S.out ?_; intro pA nA cA wA hnA hOA hBA hFA; have HNA := Lib.hid hnA; have HOA := Lib.hid hOA; have HGWA : Hid (w4.grownBy wA none) := Lib.hid (below_gb (Below.trans2 (Below.gb (gb_drew (World.grownBy_alloc w4 _ none)) (Nat.le_refl _)) hBA)); have HPD := Lib.hid ((HPA4.out.kept HGWA.out).drop (j + 1)); clear hnA hOA hBA hFA)
                | (refine step_appPL (t := 47) Try.underlying47 rfl _ _ rfl w4.heap.size ([] ++ l.take j) (l.drop (j + 1)) (some ⟨gl, ol + (j + 1) * 2, none⟩) (c - (j + 1)) _ rfl HOA.out HPD.out (N - (j + 1)) HTL.out.2 rfl (by rw [List.nil_append]; have := HTL.out.1; have := HLLK.out; omega) (by rw [List.length_drop]; have := HLLK.out; omega) HGWA.out.size ?_; intro pB nB cB wB hnB hOB hBB hFB; have HNB := Lib.hid hnB; have HOB := Lib.hid hOB; have HGWB : Hid (w4.grownBy wB none) := Lib.hid (below_gb (Below.trans2 (gb_below HGWA.out) hBB)); clear hnB hOB hBB hFB))
              all_goals
                obtain ⟨l2, hl2⟩ : ∃ l2, delL l kk = l2 := ⟨_, rfl⟩
                have hlen2 : l2.length ≤ k := by rw [← hl2]; exact Nat.le_trans (delL_len l kk) HM1.out.len
                have hown2 : OwnP wB w.heap.size (.slice pB nB cB) l2 := by
                  rw [← hl2, ← HDL.out]
                  exact ownsRow_base_a HOB.out HGW4.out.size
                have HMX : Hid (MX w wB q b (k + 1) (.slice pB nB cB) l2) := Lib.hid ⟨hl2 ▸ (HMAP4.out.kept HGWB.out).mono (Nat.le_succ k), Nat.le_succ_of_le hlen2, HM1.out.hq, HM1.out.hb, hown2, gb_trans HGW4.out HGWB.out⟩
                clear hl2 hlen2 hown2 HMAP4 HM1 HOB HGWB HOA HGWA HPD HTK HOWN0 HGB0 HPA4
                go_wp2_with fail
                go_meet
                exact ⟨rfl, _, _, _, _, _, l2, rfl, rfl, Lib.hid HMX.out.row.len.symm, HMX⟩
        by_cases k3 : dk = 3
        · subst k3
          have HGT := Lib.hid (MGet_c kk HKK.out HM1.out.map)
          clear c0 c1 c2
          rcases HGI.out with ⟨rfl, hno⟩ | ⟨j, rfl, hj, hjk, -⟩
          · have hnoL : ∀ j, j < l.length → (l.getD j (0, 0)).1 ≠ kk := fun j hj => hno j (by rw [← HN.out]; exact hj)
            obtain ⟨g1, -, g3⟩ := get_none hnoL
            unfold MGetPost at HGT
            rw [g1, g3] at HGT
            clear hno hnoL g1 g3 HGI
            go_wp2_with fail
            refine HGT.out.mono ?_
            rintro e w4 ⟨rfl, hg4⟩
            obtain ⟨l2, hl2⟩ : ∃ l2, l2 = l := ⟨_, rfl⟩
            have HMX : Hid (MX w w4 q b (k + 1) (.slice p N c) l2) := Lib.hid (by rw [hl2]; have h := HM1.out.kept hg4; exact ⟨h.map.mono (by omega), Nat.le_succ_of_le h.len, h.hq, h.hb, h.row, h.gb⟩)
            clear hg4 hl2 HGT HM1 x0 x1 x2
            go_wp2_with fail
            go_meet
            exact ⟨rfl, _, _, _, _, _, l2, rfl, rfl, Lib.hid HMX.out.row.len.symm, HMX⟩
          · have hjl : j < l.length := by rw [HN.out]; exact hj
            obtain ⟨g1, -, g3⟩ := get_some HM1.out.map.asc hjl hjk
            obtain ⟨xv0, hxv⟩ : ∃ xv0, (l.getD j (0, 0)).2 = xv0 := ⟨_, rfl⟩
            obtain ⟨gl, ol, rfl, -, hcl⟩ := HPA.out.resolve_left (fun h => by rw [h] at hjl; simp at hjl)
            have hcv := (hcl j hjl).2
            rw [hxv] at hcv g3
            unfold MGetPost at HGT
            rw [g1, g3] at HGT
            have hgd : decide ((0 : Int) ≤ (j : Int)) = true := decide_eq_true (by omega)
            have hvv : (xv0 != xv0) = false := by simp
            clear hjk HGI g1 g3 hxv hcl
            go_wp2_with fail
            refine HGT.out.mono ?_
            rintro e w4 ⟨rfl, hg4⟩
            have hcv4 := hg4.cell hcv (by simp)
            obtain ⟨l2, hl2⟩ : ∃ l2, l2 = l := ⟨_, rfl⟩
            have HMX : Hid (MX w w4 q b (k + 1) (.slice (some ⟨gl, ol, none⟩) N c) l2) := Lib.hid (by rw [hl2]; have h := HM1.out.kept hg4; exact ⟨h.map.mono (by omega), Nat.le_succ_of_le h.len, h.hq, h.hb, h.row, h.gb⟩)
            clear hg4 HGT HM1 x0 x1 x2 hcv hl2
            go_wp2_with fail
            go_meet
            exact ⟨rfl, _, _, _, _, _, l2, rfl, rfl, Lib.hid HMX.out.row.len.symm, HMX⟩
        by_cases k4 : dk = 4
        · subst k4
          have HCP := Lib.hid (MCopy_c HM1.out.map)
          clear c0 c1 c2
          go_wp2_with fail
          refine HCP.out.mono ?_
          rintro e w4 ⟨q4, b4, rfl, hnew, hold, hq4, hb4, hg4⟩
          have HPUT := Lib.hid (fun v => MPut_c kk v (by omega) HKK.out hold)
          have HNEW := Lib.hid hnew; have HM4 := Lib.hid (HM1.out.kept hg4)
          have HOLT : Hid (q < w3.heap.size ∧ b < w3.heap.size) := Lib.hid ⟨(Array.getElem?_eq_some_iff.1 HM1.out.map.box).1, HM1.out.map.own.lt⟩
          have HQB : Hid (w3.heap.size ≤ q4 ∧ w3.heap.size ≤ b4 ∧ w.heap.size ≤ w3.heap.size) := Lib.hid ⟨hq4, hb4, HM1.out.gb.size⟩
          have y0 := hg4.cell x0 (by simp)
          have y1 := hg4.cell x1 (by simp)
          have y2 := hg4.cell x2 (by simp)
          clear hnew hold hq4 hb4 hg4 HCP x0 x1 x2
          go_wp2_with fail
          refine (HPUT.out _).mono ?_
          rintro e w5 ⟨rfl, -, hg5⟩
          obtain ⟨hrow5, hgw5⟩ := HM4.out.turn hg5
          have hmp5 : MapAt w5 q4 b4 k l := HNEW.out.keptB hg5 (by have := HOLT.out; have := HQB.out; omega) (by have := HOLT.out; have := HQB.out; omega)
          obtain ⟨l2, hl2⟩ : ∃ l2, l2 = l := ⟨_, rfl⟩
          have HMX : Hid (MX w w5 q4 b4 (k + 1) (.slice p N c) l2) := Lib.hid (by rw [hl2]; exact ⟨hmp5.mono (by omega), Nat.le_succ_of_le HM4.out.len, by have := HQB.out; omega, by have := HQB.out; omega, hrow5, hgw5⟩)
          clear hg5 hrow5 hgw5 hmp5 HPUT HNEW HM4 HM1 y0 y1 y2 hl2
          go_wp2_with fail
          go_meet
          exact ⟨rfl, _, _, _, _, _, l2, rfl, rfl, Lib.hid HMX.out.row.len.symm, HMX⟩
        · obtain ⟨l2, hl2⟩ : ∃ l2, l2 = l := ⟨_, rfl⟩
          have HMX : Hid (MX w w3 q b (k + 1) (.slice p N c) l2) := Lib.hid (by rw [hl2]; exact ⟨HM1.out.map.mono (by omega), Nat.le_succ_of_le HM1.out.len, HM1.out.hq, HM1.out.hb, HM1.out.row, HM1.out.gb⟩)
          have e1 : (dk == 1) = false := by simpa using k1
          have e2 : (dk == 2) = false := by simpa using k2
          have e3 : (dk == 3) = false := by simpa using k3
          have e4 : (dk == 4) = false := by simpa using k4
          clear HM1 c0 c1 c2 hl2
          go_wp2_with fail
          go_meet
          exact ⟨rfl, _, _, _, _, _, l2, rfl, rfl, Lib.hid HMX.out.row.len.symm, HMX⟩
      case rest =>
        obtain ⟨rfl, q2, b2, N2, p2, c2, l2, rfl, rfl, HN2, HMX⟩ := hcut
        have HL2 : Hid (l2.length ≤ 1000000) := Lib.hid (by have := HMX.out.len; omega)
        have hN2b : N2 ≤ 1000 := by have := HMX.out.len; have := HN2.out; omega
        have HPR := Lib.hid (MPairs_c HL2.out HMX.out.map)
        go_wp2_with fail
        refine HPR.out.mono ?_
        rintro e w5 ⟨p5, c5, rfl, hrow5, hg5⟩
        have HMX5 := Lib.hid (HMX.out.kept hg5)
        have HPA5 := Lib.hid (pat_row hrow5).2.1
        rw [HN2.out]
        have HKY := Lib.hid (MKeys_c HL2.out HMX5.out.map)
        clear hrow5 hg5 HPR HMX
        go_wp2_with fail
        refine HKY.out.mono ?_
        rintro e w6 ⟨p6, n6, c6, rfl, hn6, hown6, hg6⟩
        have HMX6 := Lib.hid (HMX5.out.kept hg6)
        have HPA6 := Lib.hid (HPA5.out.kept hg6)
        have HLA6 := Lib.hid (lat_row hown6).2
        rw [hn6, HN2.out]
        have hln6 := MLen_c HMX6.out.map
        rw [HN2.out] at hln6
        have HLN6 := Lib.hid hln6
        clear hn6 hown6 hg6 HKY HMX5 HPA5 hln6
        go_wp2_with fail
        refine HLN6.out.mono ?_
        rintro e w7 ⟨rfl, rfl⟩
        obtain ⟨p7, c7, hv7, -, -, hpa7, -⟩ := HMX6.out.row.shape
        rw [HN2.out] at hv7
        injection hv7 with hp7 _ hc7
        subst hp7; subst hc7
        have HPL := Lib.hid hpa7
        clear hpa7 HLN6
        go_wp2_with fail
        go_loopw [146] (fun iv wr => ∃ (t : Nat), t ≤ N2 ∧ iv = .int .i64 t ∧ Hid (w7.grownBy wr none)) (fun i _ => N2 - (intOf i).toNat)
        case atStart => exact ⟨0, by omega, rfl, gb_refl _ _⟩
        case round =>
          obtain ⟨t, ht, rfl, HGT⟩ := hrel
          by_cases htl : t < N2
          · obtain ⟨⟨xk, xv⟩, hx⟩ : ∃ x, l2.getD t (0, 0) = x := ⟨_, rfl⟩
            have hkey : (l2.map (·.1)).getD t 0 = xk := by
              have htl2 : t < l2.length := by rw [HN2.out]; exact htl
              simp only [List.getD, List.getElem?_map, List.getElem?_eq_getElem htl2, Option.map_some, Option.getD_some] at hx ⊢
              rw [hx]
            obtain ⟨ga, oa, hpe, -, ka⟩ := HPL.out.resolve_left (fun h => by have h1 := HN2.out; rw [h] at h1; simp at h1; omega)
            cases hpe
            obtain ⟨gp, op, rfl, -, kp⟩ := HPA6.out.resolve_left (fun h => by have h1 := HN2.out; rw [h] at h1; simp at h1; omega)
            obtain ⟨gk, ok, rfl, -, kk⟩ := HLA6.out.resolve_left (fun h => by have h1 := HN2.out; have h2 := congrArg List.length h; rw [List.length_map] at h2; have h2 : l2.length = 0 := h2; omega)
            obtain ⟨a0, a1⟩ := ka t (by rw [HN2.out]; exact htl)
            obtain ⟨e0, e1⟩ := kp t (by rw [HN2.out]; exact htl)
            have f0 := kk t (by rw [List.length_map, HN2.out]; exact htl)
            rw [hx] at a0 a1 e0 e1
            rw [hkey] at f0
            simp only at a0 a1 e0 e1
            have hga := World.grownBy_alloc wr (.cells #[.int .i64 xk, .int .i64 xv] 57) none
            have a0 := HGT.out.cell a0 (by simp)
            have a1 := HGT.out.cell a1 (by simp)
            have e0 := hga.cell (HGT.out.cell e0 (by simp)) (by simp)
            have e1 := hga.cell (HGT.out.cell e1 (by simp)) (by simp)
            have f0 := hga.cell (HGT.out.cell f0 (by simp)) (by simp)
            have HBX := Lib.hid (heap_alloc_new wr (.cells #[.int .i64 xk, .int .i64 xv] 57))
            obtain ⟨b0, b1⟩ : (wr.alloc (.cells #[.int .i64 xk, .int .i64 xv] 57)).cell? ⟨wr.heap.size, 0, none⟩ = some (.int .i64 xk) ∧ (wr.alloc (.cells #[.int .i64 xk, .int .i64 xv] 57)).cell? ⟨wr.heap.size, 1, none⟩ = some (.int .i64 xv) := ⟨by rw [cell_of_row _ wr.heap.size 0 _ _ (0, 0) HBX.out]; rfl, by rw [cell_of_row _ wr.heap.size 1 _ _ (0, 0) HBX.out]; rfl⟩
            have HG8 := Lib.hid (gb_trans HGT.out hga)
            have q1 : (xk != xk) = false := by simp
            have q2 : (xv != xv) = false := by simp
            clear ka kp kk hx hkey hga
            go_wp2_with fail
            generalize wr.alloc (.cells #[.int .i64 xk, .int .i64 xv] 57) = W8 at *
            go_quiet (fail)
            go_wp2_with fail
            go_roundw
            case rel => exact ⟨t + 1, by omega, by go_num, Lib.hid (gb_drewN HG8.out _)⟩
            case measure => (simp [intOf] <;> omega)
          · obtain rfl : t = N2 := by omega
            have HMX9 := Lib.hid (HMX6.out.kept HGT.out)
            go_wp2_with fail
            go_roundw
            case rel => exact ⟨k + 1, _, _, _, _, _, _, by omega, by first | rfl | go_num, rfl, rfl, HN2, HMX9⟩
            case measure => (simp [intOf] <;> omega)
    · obtain rfl : k = m := by omega
      go_wp2_with fail
      go_ret
      exact ⟨rfl, HM.out.gb⟩

set_option maxRecDepth 100000 in
set_option maxHeartbeats 2000000 in
theorem maps_c (po : Option Addr) (m co : Nat) (D K V : Nat → Int) (w : World) (hm : m ≤ co) (hml : m < 9223372036854775808) (hops : OpsAt w po m D K V) (hK : ∀ j, -9223372036854775808 ≤ K j ∧ K j ≤ 9223372036854775807) :
    Calls Try.prog 5 #[.slice po m co] w (ValPost (.bool true) w) := by
  by_cases h1 : 100 < m
  · have d1 : decide ((100 : Int) < m) = true := decide_eq_true (by omega)
    have d1' : decide (100 < m) = true := decide_eq_true h1
    clear hops hK
    go_enter Try.func5, Try.ntmps5
    go_wp2_with fail
    refine (anchor_c _).mono ?_
    rintro e w1 ⟨rfl, g1⟩
    have G1 := Lib.hid g1
    clear g1
    go_wp2_with fail
    go_ret
    exact ⟨rfl, G1.out⟩
  · exact maps_yes po m co D K V w hm (by omega) hops hK
end Go.Proofs.Ytnmcfehngcnemaa
