/- The law on sets of texts, walked. -/
import Derived.Test.YtceehihdihemmaaSSet2
import Derived.Test.YtceehihdihemmaaBAnc
namespace Go.Proofs.Ytceehihdihemmaa
open Go.RowKit Go.Sort

theorem SAt.ptr {w : World} {p : Option Addr} {ss : List (List UInt8)} (h : SAt w p ss) (h0 : 0 < ss.length) : ∃ g off, p = some ⟨g, off, none⟩ := by
  obtain ⟨g, off, e, -⟩ := h.resolve_left (fun e => by rw [e] at h0; simp at h0)
  exact ⟨g, off, e⟩

theorem SAt.get {w : World} {g off : Nat} {ss : List (List UInt8)} (h : SAt w (some ⟨g, off, none⟩) ss) {k : Nat} (hk : k < ss.length) : ∃ y : ByteArray, w.cell? ⟨g, off + k, none⟩ = some (.string y) ∧ ss.getD k [] = y.data.toList := by
  obtain ⟨g', off', e, -, hc⟩ := h.resolve_left (fun e => by rw [e] at hk; simp at hk)
  injection e with e; injection e with e1 e2
  subst e1; subst e2
  exact ⟨⟨(ss.getD k []).toArray⟩, hc k hk, rfl⟩

def OwnSL (w : World) (base : Nat) (v : Value) (zs : List (List UInt8)) : Prop := w.ownsRow base 9 1 v zs.length (zs.map encStr)

/-- append of one text, as a step of the walk. -/
theorem wpList_appS1 {t : TypeId} (ht : Try.prog.underlying t = some (.slice 9))
    {w0 : World} {ops : Array Oper} {rest : List Oper} {o : Oper} {a : Act} {Q : Exit → Act → World → Prop} (hgd : o.guard = none) (s x : Operand) (ho : o.op = .call { callee := .builtin .append, args := #[s, x], argTypes := #[t, t] })
    (base : Nat) (zs : List (List UInt8)) (y : ByteArray) (v : Value) (hs : a.eval s = v) (hown : OwnSL w0 base v zs) (H : Nat) (hH : w0.heap.size = H) (hx : a.eval x = .slice (some ⟨H, 0, none⟩) 1 1) (hn : zs.length ≤ 1000000) (hbase : base ≤ w0.heap.size)
    (K : ∀ g' cap' w', OwnSL w' base (.slice (some ⟨g', 0, none⟩) (zs.length + 1) cap') (zs ++ [y.data.toList]) → Below base w0 w' → wpList Try.prog ops Q rest (a.put o.dst (.slice (some ⟨g', 0, none⟩) (zs.length + 1) cap')) w') :
    wpList Try.prog ops Q (o :: rest) a (w0.alloc (.cells #[.string y] 9)) := by
  subst hH
  obtain ⟨i0, hi, hi0, hi1, hi2⟩ := infoS_parts
  have h1a := World.ownsRow.alloc hown (.cells #[.string y] 9)
  refine wpList_append_lies (P := Try.prog) _ hgd s x t ho base 9 i0 (.string ByteArray.empty) 1 16 ht hi hi0 hi1 hi2 rfl (by decide) _ zs.length (zs.map encStr) hs h1a ⟨w0.heap.size, 0, none⟩ 1 1 [.string y] hx rfl ?_ ?_ (by omega) (by unfold maxLen; omega) (by omega) (by simp; omega) (w0.heap.size + 1) (by simp) ?_
  · intro j u hj
    match j, hj with
    | 0, hj =>
      simp at hj; subst hj
      rw [Addr.add_lit, cell_of_row _ w0.heap.size _ _ _ (0, 0) (heap_alloc_new w0 _)]; rfl
  · intro u hu; simp at hu; subst hu; rfl
  · intro g' cap' w' h3 h4 h5 _
    have e : encStr y.data.toList = .string y := rfl
    refine K g' cap' w' (by simpa [OwnSL, e] using h3) (Below.trans2 (Below.gb (World.grownBy_alloc w0 _ none) hbase) (below_own h1a (by simp; omega) h4))

/-- The list turned by t. -/
def turned (L : List (List UInt8)) (t k : Nat) : List (List UInt8) := (List.range k).map fun i => L.getD ((i + t) % L.length) []
theorem turned_succ (L : List (List UInt8)) (t k : Nat) : turned L t (k + 1) = turned L t k ++ [L.getD ((k + t) % L.length) []] := by unfold turned; rw [List.range_succ, List.map_append]; rfl
theorem turned_len (L : List (List UInt8)) (t k : Nat) : (turned L t k).length = k := by simp [turned]

theorem turned_mem {L : List (List UInt8)} {t : Nat} (ht : t < L.length) (x : List UInt8) : x ∈ turned L t L.length ↔ x ∈ L := by
  unfold turned
  rw [List.mem_map, mem_getD]
  constructor
  · rintro ⟨i, hi, rfl⟩
    exact ⟨(i + t) % L.length, Nat.mod_lt _ (by omega), rfl⟩
  · rintro ⟨j, hj, rfl⟩
    by_cases h : t ≤ j
    · refine ⟨j - t, by simp; omega, ?_⟩
      rw [show j - t + t = j by omega, Nat.mod_eq_of_lt hj]
    · refine ⟨j + L.length - t, by simp; omega, ?_⟩
      rw [show j + L.length - t + t = j + L.length by omega, Nat.add_mod_right, Nat.mod_eq_of_lt hj]

/-- A list of texts that came in. -/
theorem sat_strs {w : World} {pa : Option Addr} {n : Nat} {ls : Nat → ByteArray} (h : ∀ j, j < n → ∃ a, pa = some a ∧ w.cell? (a.add j) = some (.string (ls j))) : ∃ L : List (List UInt8), L.length = n ∧ SAt w pa L := by
  refine ⟨(List.range n).map fun j => (ls j).data.toList, by simp, ?_⟩
  by_cases h0 : n = 0
  · subst h0; exact .inl rfl
  · obtain ⟨a, e, hc⟩ := h 0 (by omega)
    have hs := World.cell?_spot hc
    have hl := World.block_lt_of_cell? w _ hc
    obtain ⟨g, o, sp⟩ := a
    have hsp : sp = none := by simpa [Addr.add] using hs
    subst hsp
    refine .inr ⟨g, o, e, by simpa [Addr.add] using hl, fun j hj => ?_⟩
    have hj : j < n := by simpa using hj
    obtain ⟨a, e2, hc2⟩ := h j hj
    rw [e] at e2; injection e2 with e2; subst e2
    rw [Addr.add_lit] at hc2
    rw [hc2]
    simp [List.getD, hj]

set_option maxRecDepth 100000 in
set_option maxHeartbeats 8000000 in
theorem words_c (pa : Option Addr) (ca : Nat) (L : List (List UInt8)) (x : Int) (w : World) (ha : L.length ≤ ca) (hal : L.length < 9223372036854775808) (hx : x ≤ 9223372036854775807) (h1 : SAt w pa L) :
    Calls Try.prog 4 #[.slice pa L.length ca, .int .i64 x] w (ValPost (.bool true) w) := by
  have HA := Lib.hid h1
  clear h1
  go_enter Try.func4, Try.ntmps4
  go_wp2_with fail
  refine (anchor_c _).mono ?_
  rintro e w1 ⟨rfl, g1⟩
  have G1 := Lib.hid g1
  clear g1
  by_cases ha30 : 30 < L.length
  · have d1 : decide ((30 : Int) < L.length) = true := decide_eq_true (by omega)
    have d1' : decide (30 < L.length) = true := decide_eq_true ha30
    go_wp2_with fail
    go_ret
    exact ⟨rfl, G1.out⟩
  have d1 : decide ((30 : Int) < L.length) = false := decide_eq_false (by omega)
  have d1' : decide (30 < L.length) = false := decide_eq_false ha30
  by_cases hneg : x < 0
  · have d2 : decide (x < 0) = true := decide_eq_true hneg
    go_wp2_with fail
    go_ret
    exact ⟨rfl, G1.out⟩
  have d2 : decide (x < 0) = false := decide_eq_false hneg
  obtain ⟨tn, rfl⟩ : ∃ tn : Nat, x = tn := ⟨x.toNat, by omega⟩
  clear hneg
  generalize hn : L.length = n at *
  have HN := Lib.hid hn
  clear hn
  go_wp2_with fail
  go_loopw [5, 25] (fun v i wr => ∃ k : Nat, k ≤ n ∧ i = .int .i64 k ∧ Hid (OwnSL wr w1.heap.size v (turned L (tn % n) k)) ∧ Hid (Below w1.heap.size w1 wr)) (fun _ i _ => n - (intOf i).toNat)
  case atStart => exact ⟨0, by omega, rfl, Lib.hid (World.ownsRow_nil _ _ _ _), Below.refl _ _⟩
  case round =>
    obtain ⟨k, hk, rfl, HO, HB⟩ := hrel
    by_cases hlt : k < n
    · obtain ⟨g, off, rfl⟩ := HA.out.ptr (by have := HN.out; omega)
      have HW := Lib.hid ((HA.out.kept G1.out).kept (below_gb HB.out : w1.grownBy wr none))
      obtain ⟨y, cy, hy⟩ := HW.out.get (k := k) (by have := HN.out; omega)
      by_cases hbig : 100 < y.size
      · have d3 : decide ((100 : Int) < y.size) = true := decide_eq_true (by omega)
        have d3' : decide (100 < y.size) = true := decide_eq_true hbig
        have HFIN := Lib.hid (gb_trans G1.out (below_gb HB.out : w1.grownBy wr none))
        go_wp2_with fail
        go_ret
        exact ⟨rfl, HFIN.out⟩
      · have d3 : decide ((100 : Int) < y.size) = false := decide_eq_false (by omega)
        have d3' : decide (100 < y.size) = false := decide_eq_false hbig
        have hnn : 0 < n := by omega
        obtain ⟨m, hm⟩ : ∃ m, k + tn % n = m := ⟨_, rfl⟩
        obtain ⟨r, hr⟩ : ∃ r, m % n = r := ⟨_, rfl⟩
        have hrn : r < n := by rw [← hr]; exact Nat.mod_lt _ hnn
        have hmod := Nat.mod_lt tn hnn
        have hwr : IntKind.i64.wrap ((k : Int) + (tn : Int) % (n : Int)) = (m : Int) := by
          have e : ((k : Int) + (tn : Int) % (n : Int)) = ((m : Nat) : Int) := by rw [← hm]; simp
          rw [e]; exact IntWalk.i64_in _ (by omega)
        have htm : (m : Int).tmod (n : Int) = (r : Int) := by rw [← hr]; exact Int.ofNat_tmod m n
        have htm2 : (m : Int) % (n : Int) = (r : Int) := by rw [← hr]; simp
        obtain ⟨z, cz, hz⟩ := HW.out.get (k := r) (by have := HN.out; omega)
        have HT : Hid (turned L (tn % n) (k + 1) = turned L (tn % n) k ++ [z.data.toList]) := Lib.hid (by rw [turned_succ, HN.out, hm, hr, hz])
        clear hm hr hy hz hmod hbig
        go_wp2_with (at_builtin; go_loud (refine wpList_appS1 (t := 37) Try.underlying37 rfl _ _ rfl w1.heap.size (turned L (tn % n) k) z u5 rfl HO.out _ rfl rfl (by rw [turned_len]; omega) HB.out.size ?_))
        intro g' cap' w3 hO3 hB3
        have HO3 := Lib.hid (show OwnSL w3 w1.heap.size _ (turned L (tn % n) (k + 1)) from HT.out ▸ hO3)
        have HB3 := Lib.hid (Below.trans2 HB.out hB3)
        clear hO3 hB3
        go_wp2_with fail
        go_roundw
        case rel => exact ⟨k + 1, by omega, by go_num, HO3, HB3⟩
        case measure => simp [intOf]; omega
    · obtain rfl : k = n := by omega
      have hv : ∃ p' c', u5 = .slice p' k c' := by
        rcases HO.out.2 with ⟨e1, e2⟩ | ⟨gq, cap, cur, e1, _⟩
        · rw [turned_len] at e2; exact ⟨_, _, e1.trans (by rw [e2])⟩
        · rw [turned_len] at e1; exact ⟨_, _, e1⟩
      obtain ⟨po, co, rfl⟩ := hv
      obtain ⟨O, hOO⟩ : ∃ O, turned L (tn % k) k = O := ⟨_, rfl⟩
      have hol : O.length = k := by rw [← hOO, turned_len]
      have hown := HO.out
      rw [hOO] at hown
      have hisl := (isSL_of_row (S := O) hown).1
      obtain ⟨pz, cz, he, hoc, hocm, hoat⟩ := hisl
      injection he with e1 e2 e3; subst e1; subst e3
      have hmem : ∀ z, z ∈ O ↔ z ∈ L := fun z => by
        by_cases h0 : k = 0
        · have : L = [] := List.eq_nil_of_length_eq_zero (by rw [HN.out, h0])
          have : O = [] := List.eq_nil_of_length_eq_zero (by rw [hol, h0])
          simp_all
        · rw [← hOO]
          have := turned_mem (L := L) (t := tn % k) (by rw [HN.out]; exact Nat.mod_lt _ (by omega)) z
          rwa [HN.out] at this
      have HMEM := Lib.hid hmem; have HOL := Lib.hid hol; have HOC := Lib.hid hoc; have HOAT := Lib.hid hoat
      have G := Lib.hid (gb_trans G1.out (below_gb HB.out : w1.grownBy wr none))
      have HL1 := Lib.hid (OfS_c pa ca L wr (by have := HN.out; omega) (by have := HN.out; omega) (HA.out.kept G.out))
      rw [HN.out] at HL1
      clear hown hoc hocm hoat hmem hol hOO e2 HO HB G1
      go_wp2_with fail
      refine HL1.out.mono ?_
      rintro e w2 ⟨A, pA, nA, cA, rfl, hset, ⟨pz, cz, he, hi1, hi2, hi3⟩, -, hlen, hg⟩
      injection he with e1 e2 e3; subst e1; subst e2; subst e3
      have HSA := Lib.hid hset; have HAL := Lib.hid (show A.length ≤ 30 by have := HN.out; omega)
      have HCI := Lib.hid (ItemsS_c pA cA A w2 (by have := HN.out; omega) hi3)
      have G := Lib.hid (gb_trans G.out hg); have HOAT := Lib.hid (HOAT.out.kept hg)
      clear hset hi1 hi2 hi3 hlen hg HL1
      go_wp2_with fail
      refine HCI.out.mono ?_
      rintro e w3 ⟨pa3, na3, ca3, rfl, ⟨pz, cz, he, hi1, hi2, hi3⟩, -, hg⟩
      injection he with e1 e2 e3; subst e1; subst e2; subst e3
      have G := Lib.hid (gb_trans G.out hg); have HA3 := Lib.hid hi3
      have hof := OfS_c po co O w3 (by have := HOL.out; omega) (by have := HOL.out; have := HOC.out; omega) (HOAT.out.kept hg)
      rw [HOL.out] at hof
      have HL2 := Lib.hid hof
      clear hi1 hi2 hi3 hg HCI hof HOAT
      go_wp2_with fail
      refine HL2.out.mono ?_
      rintro e w4 ⟨B, pB, nB, cB, rfl, hset, ⟨pz, cz, he, hi1, hi2, hi3⟩, -, hlen, hg⟩
      injection he with e1 e2 e3; subst e1; subst e2; subst e3
      obtain rfl : B = A := ascS_ext hset.1 HSA.out.1 fun z => by rw [hset.2, HSA.out.2, HMEM.out]
      have HA3 := Lib.hid (HA3.out.kept hg); have G := Lib.hid (gb_trans G.out hg)
      have HCI := Lib.hid (ItemsS_c pB cB B w4 (by have := HAL.out; omega) hi3)
      clear hset hi1 hi2 hi3 hlen hg HL2
      go_wp2_with fail
      refine HCI.out.mono ?_
      rintro e w5 ⟨pb3, nb3, cb3, rfl, ⟨pz, cz, he, hi1, hi2, hi3⟩, -, hg⟩
      injection he with e1 e2 e3; subst e1; subst e2; subst e3
      have HA3 := Lib.hid (HA3.out.kept hg); have HB3 := Lib.hid hi3; have G := Lib.hid (gb_trans G.out hg)
      clear hi1 hi2 hi3 hg HCI
      have hbl : ((B.length : Int) != (B.length : Int)) = false := by simp
      generalize hbn : B.length = m at *
      have HBN := Lib.hid hbn
      have hm30 : m ≤ 30 := HAL.out
      clear hbn
      go_wp2_with fail
      go_loopw [63] (fun i cur => ∃ j : Nat, j ≤ m ∧ i = .int .i64 j ∧ Hid (w5.grownBy cur none)) (fun i _ => m - (intOf i).toNat)
      case atStart => exact ⟨0, by omega, rfl, gb_refl _ _⟩
      case round =>
        obtain ⟨j, hj, rfl, HCU⟩ := hrel
        have HA3 := Lib.hid (HA3.out.kept HCU.out); have HB3 := Lib.hid (HB3.out.kept HCU.out)
        by_cases hjm : j < m
        · obtain ⟨ga, oa, rfl⟩ := HA3.out.ptr (by have := HBN.out; omega)
          obtain ⟨gb, ob, rfl⟩ := HB3.out.ptr (by have := HBN.out; omega)
          obtain ⟨y, cy, hy⟩ := HA3.out.get (k := j) (by have := HBN.out; omega)
          obtain ⟨y2, cy2, hy2⟩ := HB3.out.get (k := j) (by have := HBN.out; omega)
          obtain rfl : y2 = y := ba_ext (by rw [← hy, ← hy2])
          by_cases h0 : j = 0
          · subst h0
            clear hy hy2
            simp only [Nat.add_zero] at cy cy2
            go_wp2_with fail
            go_roundw
            case rel => exact ⟨1, by omega, rfl, HCU⟩
            case measure => simp [intOf]; omega
          · obtain ⟨i, hi⟩ : ∃ i, j - 1 = i := ⟨_, rfl⟩
            obtain ⟨z, cz, hz⟩ := HA3.out.get (k := i) (by have := HBN.out; omega)
            have hlt := ascS_get HSA.out.1 (show i < j by omega) (by have := HBN.out; omega)
            rw [hz, hy] at hlt
            have d4 : decide ((0 : Int) < (j : Int)) = true := decide_eq_true (by omega)
            have d4' : decide (0 < j) = true := decide_eq_true (by omega)
            have hwr : IntKind.i64.wrap ((j : Int) - 1) = (i : Int) := by rw [show (j : Int) - 1 = (i : Int) by omega]; exact IntWalk.i64_in _ (by have := HAL.out; omega)
            have him : i < m := by omega
            have hb1 : Op.bytesLess y2.toList z.toList = false := by rw [bless]; exact decide_eq_false fun h => List.lt_irrefl _ (List.lt_trans h hlt)
            have hb2 : (y2.toList == z.toList) = false := beq_eq_false_iff_ne.2 fun e => by rw [Lib.toList_data, Lib.toList_data] at e; rw [e] at hlt; exact List.lt_irrefl _ hlt
            have HJ := Lib.hid (fun _ : Unit => hi)
            clear hi hz hlt hy hy2 h0
            go_wp2_with fail
            go_roundw
            case rel => exact ⟨j + 1, by omega, by go_num, HCU⟩
            case measure => simp [intOf]; omega
        · obtain rfl : j = m := by omega
          have G := Lib.hid (gb_trans G.out HCU.out)
          have HA := Lib.hid (HA.out.kept G.out)
          have hof := OfS_c pa ca L _ (by have := HN.out; omega) (by have := HN.out; omega) HA.out
          rw [HN.out] at hof
          have HL3 := Lib.hid hof
          clear hof HA3 HB3
          go_wp2_with fail
          refine HL3.out.mono ?_
          rintro e w6 ⟨S, pS, nS, cS, rfl, hset, ⟨pz, cz, he, hi1, hi2, hi3⟩, -, hlen, hg⟩
          injection he with e1 e2 e3; subst e1; subst e2; subst e3
          have hga := World.grownBy_alloc w6 (.cells #[.slice pS S.length cS] 39) none
          have HB6 := Lib.hid (heap_alloc_new w6 (.cells #[.slice pS S.length cS] 39))
          have HS6 := Lib.hid hset; have HI6 := Lib.hid (hi3.kept hga); have HSL := Lib.hid (show S.length ≤ 1000000 by have := HN.out; omega)
          have HA := Lib.hid (HA.out.kept (gb_trans hg hga)); have G := Lib.hid (gb_trans G.out (gb_trans hg hga))
          clear hset hi1 hi2 hi3 hlen hg hga HL3
          go_wp2_with fail
          generalize hq : w6.heap.size = q at *
          generalize w6.alloc (.cells #[.slice pS S.length cS] 39) = W at *
          go_loopw [92] (fun i cur => ∃ j : Nat, j ≤ k ∧ i = .int .i64 j ∧ Hid (W.grownBy cur none)) (fun i _ => k - (intOf i).toNat)
          case atStart => exact ⟨0, by omega, rfl, gb_refl _ _⟩
          case round =>
            obtain ⟨j2, hj2, rfl, HGR⟩ := hrel
            by_cases hjk : j2 < k
            · obtain ⟨gl, ol, rfl⟩ := HA.out.ptr (by have := HN.out; omega)
              obtain ⟨y, cy, hy⟩ := (HA.out.kept HGR.out).get (k := j2) (by have := HN.out; omega)
              have cb := (cellb (bx HGR.out HB6.out)).1
              have hmemS : decide (y.data.toList ∈ S) = true := decide_eq_true (by rw [HS6.out.2, ← hy]; exact mem_getD.2 ⟨j2, by have := HN.out; omega, rfl⟩)
              have hh := HasS_c pS cS S y _ HSL.out HS6.out.1 (HI6.out.kept HGR.out)
              rw [hmemS] at hh
              have HH := Lib.hid hh
              clear hh hmemS hy
              go_wp2_with fail
              refine HH.out.mono ?_
              rintro e w7 ⟨rfl, hg⟩
              have HGR2 := Lib.hid (gb_trans HGR.out hg)
              clear hg
              go_wp2_with fail
              go_roundw
              case rel => exact ⟨j2 + 1, by omega, by go_num, HGR2⟩
              case measure => simp [intOf]; omega
            · have HFIN := Lib.hid (gb_trans G.out HGR.out)
              obtain rfl : j2 = k := by omega
              go_wp2_with fail
              go_ret
              exact ⟨rfl, HFIN.out⟩
end Go.Proofs.Ytceehihdihemmaa
