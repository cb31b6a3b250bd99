/- Lemmas. -/
import Derived.Test.YtijpelkjeejjfaaGreatDoorP18
set_option linter.unusedVariables false
set_option linter.unusedSimpArgs false
namespace Go.Proofs.YtijpelkjeejjfaaGreatDoor.Zd
open Go.RowKit Mx

theorem digits_w (p : Option Addr) (n cap : Nat) (f : Nat → Nat) (w : World) (h3 : At .u64 w p n f) (h4 : ∀ j, j < n → f j < Bw) (h5 : n = 0 ∨ f (n - 1) ≠ 0) (h0 : 0 < n) (hL : V Bw f 0 n < Lim) : Calls Tryz.prog 57 #[.slice p n cap] w (DigPost (V Bw f 0 n) w) := by
  have hn := lim_len h5 hL
  unfold LimN at hn
  exact digitsFromLast_w p n cap f w hn h3 h4 h5 h0

theorem nd_small {N : Nat} (h : N < Lim) : nd N ≤ 6400000 := by
  rcases Nat.lt_or_ge 6400000 (nd N) with hlt | hge
  · exfalso
    have hN : N ≠ 0 := by intro e; subst e; rw [nd, dif_pos rfl] at hlt; omega
    have h1 := nd_le N hN
    have h2 : 2 ^ (nd N - 1) ≤ 10 ^ (nd N - 1) := Nat.pow_le_pow_left (by omega) _
    have h3 : Lim = 2 ^ (64 * LimN) := by unfold Lim; rw [Nat.pow_mul, show (2 : Nat) ^ 64 = Bw from rfl]
    have h4 : 2 ^ (64 * LimN) ≤ 2 ^ (nd N - 1) := Nat.pow_le_pow_right (by omega) (by unfold LimN; omega)
    omega
  · exact hge

theorem decL_len (N : Nat) : (decL N).length = nd N := by simp [decL]
theorem dig_lt (N j : Nat) : dig N j < 10 := Nat.mod_lt _ (by omega)
theorem decL_get (N j : Nat) (h : j < (decL N).length) : (decL N)[j].toNat = 48 + dig N (nd N - 1 - j) := by
  have := dig_lt N (nd N - 1 - j)
  simp [decL]
  omega

theorem txt_pos {N : Nat} (h : N ≠ 0) : txtL (N : Int) = decL N := by
  unfold txtL
  rw [if_neg (by omega), if_neg (by omega)]; simp
theorem txt_neg {N : Nat} (h : N ≠ 0) : txtL (-(N : Int)) = 45 :: decL N := by
  unfold txtL
  rw [if_neg (by omega), if_pos (by omega)]; simp

theorem conv_run (w : World) (base g cap n : Nat) (f : Nat → Nat) (l : List UInt8) (h : Own .u8 5 w base (.slice (some ⟨g, 0, none⟩) n cap) n f) (hl : l.length = n) (hf : ∀ j (hj : j < l.length), l[j].toNat = f j) :
    (convert 89 9 (.slice (some ⟨g, 0, none⟩) n cap)).run Tryz.prog w = .ok (.string ⟨l.toArray⟩) w := by
  have := run_convert_bytes_back (P := Tryz.prog) w 89 9 5 ⟨g, 0, none⟩ cap l Tryz.underlying89 Tryz.underlying5 Tryz.underlying9 (fun j hj => by
    rw [addr_add, Nat.zero_add, h.cell (by omega), hf j hj])
  rwa [hl] at this

theorem neg_bytes {N : Nat} {fd : Nat → Nat} (hF : ∀ j, j < nd N → fd j = 48 + dig N j) : ∀ j (hj : j < (45 :: decL N).length), (45 :: decL N)[j].toNat = upd fd (nd N) 45 (nd N + 1 - 1 - j) := by
  intro j hj
  rw [List.length_cons, decL_len] at hj
  match j with
  | 0 => simp [upd]
  | j + 1 =>
    rw [upd_ne (by omega), List.getElem_cons_succ, decL_get, hF _ (by omega)]
    congr 2; omega

set_option maxHeartbeats 2000000 in
theorem String_c (x : Value) (Z : Int) (w : World) (h : IsInt w x Z) (hZ : Z.natAbs < Lim) : Calls Tryz.prog 32 #[x] w (ValPost (txt Z) w) := by
  obtain ⟨s, p, n, cap, f, rfl, h1, h2, h3, h4, h5, h6, rfl⟩ := int_open h
  have hg := World.grownBy_alloc w (.cells #[.bool s, .slice p n cap] 29) none
  have hab : (sgn s (V Bw f 0 n)).natAbs = V Bw f 0 n := by cases s <;> simp [sgn]
  rw [hab] at hZ
  by_cases hn : n = 0
  · subst hn
    have hz : sgn s (V Bw f 0 0) = 0 := by cases s <;> simp [sgn, V]
    rw [hz]
    have hfin : ValPost (txt 0) w (.returned (.string ⟨#[48]⟩)) (w.alloc (.cells #[.bool s, .slice p 0 cap] 29)) := ⟨rfl, hg⟩
    have HFIN := Lib.hid hfin
    clear hfin h h3 h4 h5 h6 hg hz hab hZ
    go_enter Tryz.func32, Tryz.ntmps32
    go_wp2
    go_ret
    exact HFIN.out
  · have hv := (num_len h5).1 (by omega)
    have hne : ((n : Int) == 0) = false := beq_eq_false_iff_ne.2 (by omega)
    have HD := Lib.hid (digits_w p n cap f _ (h3.grown hg (by simp)) h4 h5 (by omega) hZ)
    have HND := Lib.hid (nd_small hZ)
    have HV := Lib.hid hv
    have HG := Lib.hid hg
    generalize V Bw f 0 n = N at *
    clear h h3 h4 h5 h6 hg hab hZ hv
    cases s
    · go_enter Tryz.func32, Tryz.ntmps32
      go_wp2_with (first
        | (go_at_call 57; refine HD.out.mono ?_; rintro e w2 ⟨g, cp, fd, rfl, hO, hF, hg2⟩; have HO := Lib.hid hO; have HF := Lib.hid hF; have HG2 := Lib.hid hg2; obtain ⟨hcr, hfr⟩ := bcell hg2; have hsz2 := hg2.size; clear hO hF hg2)
        | (go_at_call 58; refine (reverse_c g cp (nd N) fd _ _ HO.out (by have := HND.out; omega)).mono ?_; rintro e w3 ⟨rfl, hO3, hG3⟩; have hcv := conv_run w3 _ g cp (nd N) _ (decL N) hO3 (decL_len N) (by intro j hj; rw [decL_get]; rw [decL_len] at hj; exact (HF.out _ (by omega)).symm); have HG3 := Lib.hid hG3; clear hO3 hG3))
      go_ret
      refine ⟨?_, gb_own (gb_trans HG.out HG2.out) HO.out (by simp) HG3.out⟩
      have : txt (sgn false (N : Int).toNat) = .string ⟨(decL N).toArray⟩ := by
        show Value.string ⟨(txtL ((N : Int).toNat : Int)).toArray⟩ = _
        rw [Int.toNat_natCast, txt_pos HV.out]
      rw [Int.toNat_natCast] at this
      rw [this]; rfl
    · go_enter Tryz.func32, Tryz.ntmps32
      go_wp2_with (first
        | (go_at_call 57; refine HD.out.mono ?_; rintro e w2 ⟨g, cp, fd, rfl, hO, hF, hg2⟩; have HO := Lib.hid hO; have HF := Lib.hid hF; have HG2 := Lib.hid hg2; obtain ⟨hcr, hfr⟩ := bcell hg2; have hsz2 := hg2.size; have hND := HND.out; clear hO hF hg2)
        | (at_builtin; refine wpList_app1 (k := .u8) (t := 89) (e := 5) (bytes := 1) Tryz.underlying89 info8 (by omega) rfl _ _ rfl _ (.slice (some ⟨g, 0, none⟩) (nd N) cp) (nd N) fd _ 45 rfl rfl HO.out rfl (by omega) hsz2 ?_))
      intro v' w3 hO' hG'
      obtain ⟨g', cp', rfl, hb', hs', hc', hm'⟩ : ∃ g' cp', v' = .slice (some ⟨g', 0, none⟩) (nd N + 1) cp' ∧ _ ≤ g' ∧ g' < w3.heap.size ∧ nd N + 1 ≤ cp' ∧ cp' ≤ maxLen := by
        rcases hO'.shape with ⟨_, h⟩ | h
        · omega
        · exact h
      have HO' := Lib.hid hO'; have HG' := Lib.hid (gb_own (gb_trans HG.out HG2.out) HO.out (by simp) hG')
      clear hO' hG' hcr hfr hc' hm'
      go_wp2_with (go_at_call 58; refine (reverse_c g' cp' (nd N + 1) _ _ _ HO'.out (by omega)).mono ?_; rintro e w4 ⟨rfl, hO4, hG4⟩; have hcv := conv_run w4 _ g' cp' (nd N + 1) _ (45 :: decL N) hO4 (by rw [List.length_cons, decL_len]) (neg_bytes HF.out); have HG4 := Lib.hid hG4; clear hO4 hG4)
      go_ret
      refine ⟨?_, gb_own HG'.out HO'.out (by simp) HG4.out⟩
      have : txt (sgn true (N : Int).toNat) = .string ⟨(45 :: decL N).toArray⟩ := by
        show Value.string ⟨(txtL (-((N : Int).toNat : Int))).toArray⟩ = _
        rw [Int.toNat_natCast, txt_neg HV.out]
      rw [Int.toNat_natCast] at this
      rw [this]; rfl

set_option maxHeartbeats 400000 in
/-- length: how many binary digits. -/
theorem length_c (p : Option Addr) (n cap : Nat) (f : Nat → Nat) (w : World) (hn : n ≤ 1099511627776) (h : At .u64 w p n f) (hf : ∀ j, j < n → f j < Bw) (t : n = 0 ∨ f (n - 1) ≠ 0) :
    Calls Tryz.prog 146 #[.slice p n cap] w (LenPost (V Bw f 0 n) w) := by
  by_cases h0 : n = 0
  · subst h0
    have hfin : LenPost (V Bw f 0 0) w (.returned (.int .i64 0)) w := ⟨0, rfl, fun _ => rfl, fun h => absurd rfl h, rfl⟩
    have HFIN := Lib.hid hfin
    clear hfin hf
    go_enter Tryz.func146, Tryz.ntmps146
    go_wp2
    go_ret
    exact HFIN.out
  · rcases h with h | ⟨g, off, rfl, hg, hc⟩
    · omega
    obtain ⟨m, rfl⟩ : ∃ m, n = m + 1 := ⟨n - 1, by omega⟩
    have hcell := hc m (by omega)
    have ht : f m ≠ 0 := by simpa using t
    have hfm : f m < 18446744073709551616 := hf m (by omega)
    obtain ⟨a, b, c⟩ := bitLenAux_b 64 (f m) hfm
    have b := b ht
    change f m < 2 ^ Go.Lib.bitLen (f m) at a
    change 2 ^ Go.Lib.bitLen (f m) ≤ 2 * f m at b
    change Go.Lib.bitLen (f m) ≤ 64 at c
    have hcc : ∀ w, Calls Tryz.prog 147 #[.int .u64 (f m)] w fun e w' => e = .returned (.int .i64 (Go.Lib.bitLen (f m))) ∧ w = w' := by
      intro w
      refine (Tryz.bits_Len64 (f m : Int) w (by omega) (by omega)).mono ?_
      rintro e w' ⟨rfl, rfl⟩
      exact ⟨by rw [Int.toNat_natCast], rfl⟩
    generalize Go.Lib.bitLen (f m) = L at *
    have hpos : 0 < L := by
      rcases Nat.eq_zero_or_pos L with e | e
      · subst e; omega
      · exact e
    have hB : Bw ^ m = 2 ^ (64 * m) := by rw [Nat.pow_mul]; rfl
    have hlow : V Bw f 0 m < Bw ^ m := V_lt (fun j hj => by simpa using hf j (by omega))
    have hfin : LenPost (V Bw f 0 (m + 1)) w (.returned (.int .i64 (64 * (m : Int) + L))) w := by
      have hv : V Bw f 0 (m + 1) = V Bw f 0 m + f m * Bw ^ m := by rw [V_succ, Nat.zero_add]
      rw [hv]
      rw [hB] at hlow ⊢
      have hp : 0 < 2 ^ (64 * m) := Nat.pow_pos (by omega)
      have k1 : 1 * 2 ^ (64 * m) ≤ f m * 2 ^ (64 * m) := Nat.mul_le_mul_right _ (by omega)
      refine ⟨64 * m + L, by simp, fun e => by omega, fun _ => ⟨?_, ?_, by omega⟩, rfl⟩
      · have e1 : 2 ^ (64 * m + L - 1) = 2 ^ (L - 1) * 2 ^ (64 * m) := by rw [← Nat.pow_add]; congr 1; omega
        have e2 : 2 ^ L = 2 * 2 ^ (L - 1) := by rw [← Nat.pow_succ']; congr 1; omega
        have : 2 ^ (L - 1) * 2 ^ (64 * m) ≤ f m * 2 ^ (64 * m) := Nat.mul_le_mul_right _ (by omega)
        omega
      · have e1 : 2 ^ (64 * m + L) = 2 ^ L * 2 ^ (64 * m) := by rw [← Nat.pow_add]; congr 1; omega
        have : (f m + 1) * 2 ^ (64 * m) ≤ 2 ^ L * 2 ^ (64 * m) := Nat.mul_le_mul_right _ (by omega)
        rw [Nat.add_mul] at this
        omega
    have HFIN := Lib.hid hfin
    have HCC := Lib.hid hcc
    clear hfin hcc hf hc a b t hlow hB
    go_enter Tryz.func146, Tryz.ntmps146
    go_wp2_with (go_at_call 147; refine (HCC.out _).mono ?_; rintro e w' ⟨rfl, rfl⟩)
    go_ret
    exact HFIN.out
def sg (Z : Int) : Int := if Z < 0 then -1 else if Z = 0 then 0 else 1

set_option maxHeartbeats 400000 in
theorem Sign_c (x : Value) (Z : Int) (w : World) (h : IsInt w x Z) : Calls Tryz.prog 136 #[x] w (ValPost (.int .i64 (sg Z)) w) := by
  obtain ⟨s, p, n, cap, f, rfl, h1, h2, h3, h4, h5, h6, rfl⟩ := int_open h
  have hg := World.grownBy_alloc w (.cells #[.bool s, .slice p n cap] 29) none
  by_cases hn : n = 0
  · subst hn
    have hfin : ValPost (.int .i64 (sg (sgn s (V Bw f 0 0)))) w (.returned (.int .i64 0)) (w.alloc (.cells #[.bool s, .slice p 0 cap] 29)) := ⟨by cases s <;> simp [sg, sgn, V], hg⟩
    have HFIN := Lib.hid hfin
    clear hfin h h3 h4 h5 h6 hg
    go_enter Tryz.func136, Tryz.ntmps136
    go_wp2
    go_ret
    exact HFIN.out
  · have hv := (num_len h5).1 (by omega)
    have hne : ((n : Int) == 0) = false := beq_eq_false_iff_ne.2 (by omega)
    cases s
    · have hfin : ValPost (.int .i64 (sg (sgn false (V Bw f 0 n)))) w (.returned (.int .i64 1)) (w.alloc (.cells #[.bool false, .slice p n cap] 29)) := ⟨by
        have : sg (sgn false (V Bw f 0 n)) = 1 := by simp only [sg, sgn]; simp; omega
        rw [this], hg⟩
      have HFIN := Lib.hid hfin
      clear hfin h h3 h4 h5 h6 hg hv
      go_enter Tryz.func136, Tryz.ntmps136
      go_wp2
      go_ret
      exact HFIN.out
    · have hfin : ValPost (.int .i64 (sg (sgn true (V Bw f 0 n)))) w (.returned (.int .i64 (-1))) (w.alloc (.cells #[.bool true, .slice p n cap] 29)) := ⟨by
        have : sg (sgn true (V Bw f 0 n)) = -1 := by simp only [sg, sgn]; simp; omega
        rw [this], hg⟩
      have HFIN := Lib.hid hfin
      clear hfin h h3 h4 h5 h6 hg hv
      go_enter Tryz.func136, Tryz.ntmps136
      go_wp2
      go_ret
      exact HFIN.out

set_option maxHeartbeats 400000 in
theorem Bits_c (x : Value) (Z : Int) (w : World) (h : IsInt w x Z) (hZ : Z.natAbs < Lim) : Calls Tryz.prog 137 #[x] w fun e w' => ∃ n : Nat, e = .returned (.int .i64 n) ∧ (Z = 0 → n = 0) ∧ (Z ≠ 0 → 2 ^ (n - 1) ≤ Z.natAbs ∧ Z.natAbs < 2 ^ n ∧ 0 < n) ∧ w.grownBy w' none := by
  obtain ⟨s, p, n, cap, f, rfl, h1, h2, h3, h4, h5, h6, rfl⟩ := int_open h
  have hg := World.grownBy_alloc w (.cells #[.bool s, .slice p n cap] 29) none
  have hab : (sgn s (V Bw f 0 n)).natAbs = V Bw f 0 n := by cases s <;> simp [sgn]
  rw [hab] at hZ
  have hn := lim_len h5 hZ
  unfold LimN at hn
  have HC := Lib.hid (length_c p n cap f _ (by omega) (h3.grown hg (by simp)) h4 h5)
  have HG := Lib.hid hg
  have HAB := Lib.hid hab
  clear h hg h3 h4 h5 h6 hZ hab
  go_enter Tryz.func137, Tryz.ntmps137
  go_wp2_with (go_at_call 146; refine HC.out.mono ?_; rintro e w1 ⟨k, rfl, hk1, hk2, rfl⟩; have HK1 := Lib.hid hk1; have HK2 := Lib.hid hk2; clear hk1 hk2)
  go_ret
  refine ⟨k, rfl, fun e => HK1.out ?_, fun e => ?_, HG.out⟩
  · rw [← HAB.out, e]; rfl
  · rw [HAB.out]; exact HK2.out (by intro e2; apply e; rw [e2]; cases s <;> rfl)

end Go.Proofs.YtijpelkjeejjfaaGreatDoor.Zd
namespace Go.Proofs.YtijpelkjeejjfaaGreatDoor
open Go.RowKit

def IntGbN (v : Nat) (w : World) (e : Ending) (w' : World) : Prop := e = .returned (.int .i64 (v : Int)) ∧ w.grownBy w' none

theorem two_prefix {s : ByteArray} {p : Nat} {g : List UInt8} (hg : g.length = 2) : g = (s.extract p (p + 2)).data.toList ↔ g.isPrefixOf (s.data.toList.drop p) = true := by
  rw [List.isPrefixOf_iff_prefix, List.prefix_iff_eq_take, hg, ext_list, ← List.take_drop]

theorem two_short {s : ByteArray} {p : Nat} {g : List UInt8} (hg : g.length = 2) (h : s.size ≤ p + 1) : g.isPrefixOf (s.data.toList.drop p) = false := by
  rw [← Bool.not_eq_true]
  intro h2
  have := pre_len h2
  rw [hg, List.length_drop, list_len] at this
  omega

set_option maxRecDepth 100000 in
set_option maxHeartbeats 8000000 in
theorem rsign_c (s : ByteArray) (p : Nat) (w : World) (hs : s.size ≤ 1000000) (hp : p < s.size) : Calls Tryz.prog 116 #[.string s, .int .i64 (p : Int)] w (IntGbN (signN (s.data.toList.drop p)) w) := by
  have HDR := Lib.hid (drop_at hp)
  have HTL := Lib.hid (show ∀ g ∈ twosL, g.length = 2 by decide)
  have hw1 : IntKind.i64.wrap ((p : Int) + 1) = (p : Int) + 1 := IntWalk.i64_in _ (by omega)
  have hw2 : IntKind.i64.wrap ((p : Int) + 2) = (p : Int) + 2 := IntWalk.i64_in _ (by omega)
  go_enter Tryz.func116, Tryz.ntmps116
  go_wp2_with (refine wpList_store_row rfl 187 _ _ rfl w.heap.size (twosL.map strV).toArray rfl rfl 187 _ (heap_alloc_new w _) (by kernel_rfl) rfl (ones_arr _) ?_)
  rw [World.setRow_alloc_new]
  have HW := Lib.hid (World.grownBy_alloc w (.cells (twosL.map strV).toArray 187) none)
  have HCE : Hid (∀ k x, twosL[k]? = some x → (w.alloc (.cells (twosL.map strV).toArray 187)).cell? ⟨w.heap.size, k, none⟩ = some (.string ⟨x.toArray⟩)) := Lib.hid (fun k x hx => cell_arr hx)
  have HZ : Hid (w.heap.size < (w.alloc (.cells (twosL.map strV).toArray 187)).heap.size) := Lib.hid (by simp)
  generalize w.alloc (.cells (twosL.map strV).toArray 187) = W at *
  go_wp2
  go_loopw [6] (fun i wr => ∃ k : Nat, k ≤ 6 ∧ i = .int .i64 k ∧ Hid (∀ g ∈ twosL.take k, g.isPrefixOf (s.data.toList.drop p) = false) ∧ Hid (W.grownBy wr none)) (fun i _ => 6 - (intOf i).toNat)
  case atStart => exact ⟨0, Nat.zero_le _, rfl, Lib.hid (fun g hg => by cases hg), gb_refl _ _⟩
  case round =>
    obtain ⟨k, hk, rfl, HC, HG⟩ := hrel
    by_cases hlt : k < 6
    · have d1 : decide ((k : Int) < 6) = true := decide_eq_true (by omega)
      have d1' : decide (k < 6) = true := decide_eq_true hlt
      obtain ⟨x, hx⟩ : ∃ x, twosL[k]? = some x := ⟨twosL[k]'hlt, List.getElem?_eq_getElem _⟩
      have hxm := List.mem_of_getElem? hx
      have hxl := HTL.out x hxm
      have hc := HG.out.cell (HCE.out k x hx) (by simp)
      obtain ⟨y, hy⟩ : ∃ y : ByteArray, (⟨x.toArray⟩ : ByteArray) = y := ⟨_, rfl⟩
      have hyl : y.toList = x := by rw [toList_data, ← hy]
      rw [hy] at hc
      have step : x.isPrefixOf (s.data.toList.drop p) = false → ∀ g ∈ twosL.take (k + 1), g.isPrefixOf (s.data.toList.drop p) = false := fun hne g hg => by
        rw [List.take_add_one, hx] at hg
        rcases List.mem_append.1 hg with hg | hg
        · exact HC.out g hg
        · simp at hg; subst hg; exact hne
      by_cases hlt2 : p + 1 < s.size
      · have d3 : decide ((p : Int) + 1 < (s.size : Int)) = true := decide_eq_true (by omega)
        have d3' : decide (p + 1 < s.size) = true := decide_eq_true hlt2
        cases hpre : x.isPrefixOf (s.data.toList.drop p)
        · have d2 : ((s.extract p (p + 2)).toList == y.toList) = false := by
            rw [hyl, toList_data, beq_eq_false_iff_ne]
            intro e
            have := (two_prefix hxl).1 e.symm
            rw [hpre] at this; cases this
          have HR := Lib.hid (step hpre)
          clear step hpre hx hxm hxl hyl hy HDR HTL
          go_wp2_with fail
          go_quiet (fail)
          go_wp2_with fail
          go_roundw
          case rel => exact ⟨k + 1, by omega, by go_num, HR, Lib.hid (gb_drewN HG.out _)⟩
          case measure => (simp [intOf] <;> omega)
        · have d2 : ((s.extract p (p + 2)).toList == y.toList) = true := by
            rw [hyl, toList_data, ← (two_prefix hxl).2 hpre]; simp
          have HR : Hid (signN (s.data.toList.drop p) = 2) := Lib.hid (signN_two hxm hpre)
          clear step hpre hx hxm hxl hyl hy HDR HTL
          go_wp2_with fail
          go_quiet (fail)
          go_wp2_with fail
          go_ret
          exact ⟨by rw [HR.out]; rfl, gb_trans HW.out (gb_drewN HG.out _)⟩
      · have d3 : decide ((p : Int) + 1 < (s.size : Int)) = false := decide_eq_false (by omega)
        have d3' : decide (p + 1 < s.size) = false := decide_eq_false hlt2
        have HR := Lib.hid (step (two_short hxl (by omega)))
        clear step hx hxm hxl hyl hy HDR HTL hc
        go_wp2_with fail
        go_quiet (fail)
        go_wp2_with fail
        go_roundw
        case rel => exact ⟨k + 1, by omega, by go_num, HR, Lib.hid (gb_drewN HG.out _)⟩
        case measure => (simp [intOf] <;> omega)
    · obtain rfl : k = 6 := by omega
      have HNO : Hid (∀ g ∈ twosL, g.isPrefixOf (s[p] :: s.data.toList.drop (p + 1)) = false) := Lib.hid (by rw [← HDR.out]; exact HC.out)
      go_wp2_with fail
      have HOO : Hid ((⟨#[40, 41, 123, 125, 44, 58, 59, 46, 43, 45, 42, 47, 37, 61, 60, 62]⟩ : ByteArray).data.toList = onesL) := Lib.hid rfl
      have hOs : (⟨#[40, 41, 123, 125, 44, 58, 59, 46, 43, 45, 42, 47, 37, 61, 60, 62]⟩ : ByteArray).size = 16 := rfl
      generalize (⟨#[40, 41, 123, 125, 44, 58, 59, 46, 43, 45, 42, 47, 37, 61, 60, 62]⟩ : ByteArray) = O at *
      have HOS := Lib.hid hOs
      clear hOs
      go_loopw [8] (fun i wr2 => ∃ k : Nat, k ≤ 16 ∧ i = .int .i64 k ∧ Hid (∀ b ∈ onesL.take k, s[p] ≠ b) ∧ Hid (W.grownBy wr2 none)) (fun i _ => 16 - (intOf i).toNat)
      case atStart => exact ⟨0, Nat.zero_le _, rfl, Lib.hid (fun g hg => by cases hg), HG⟩
      case round =>
        clear HG HC
        obtain ⟨k, hk, rfl, HC, HG⟩ := hrel
        by_cases hko : k < O.size
        · have d1 : decide ((k : Int) < (O.size : Int)) = true := decide_eq_true (by omega)
          have d1' : decide (k < O.size) = true := decide_eq_true hko
          have hk16 : k < 16 := by have := HOS.out; omega
          have hx := byte_at hko
          rw [HOO.out] at hx
          by_cases he : s[p] = O[k]
          · have d2 : ((s[p].toNat : Int) == (O[k].toNat : Int)) = true := by rw [he]; simp
            have HR : Hid (signN (s.data.toList.drop p) = 1) := Lib.hid (by rw [HDR.out]; exact signN_one HNO.out (by rw [he]; exact List.mem_of_getElem? hx))
            clear hx he HDR HTL
            go_wp2_with fail
            go_quiet (fail)
            go_wp2_with fail
            go_ret
            exact ⟨by rw [HR.out]; rfl, gb_trans HW.out (gb_drewN HG.out _)⟩
          · have d2 : ((s[p].toNat : Int) == (O[k].toNat : Int)) = false := byte_ne O[k] rfl he
            have HR : Hid (∀ b ∈ onesL.take (k + 1), s[p] ≠ b) := Lib.hid (fun b hb => by
              rw [List.take_add_one, hx] at hb
              rcases List.mem_append.1 hb with hb | hb
              · exact HC.out b hb
              · simp at hb; subst hb; exact he)
            clear hx he HDR HTL
            go_wp2_with fail
            go_quiet (fail)
            go_wp2_with fail
            go_roundw
            case rel => exact ⟨k + 1, by omega, by go_num, HR, Lib.hid (gb_drewN HG.out _)⟩
            case measure => (simp [intOf] <;> omega)
        · obtain rfl : k = 16 := by have := HOS.out; omega
          have d1 : decide ((16 : Int) < (O.size : Int)) = false := decide_eq_false (by have := HOS.out; omega)
          have d1' : decide (16 < O.size) = false := decide_eq_false hko
          have HR : Hid (signN (s.data.toList.drop p) = 0) := Lib.hid (by rw [HDR.out]; exact signN_none HNO.out (fun h => HC.out _ h rfl))
          go_wp2_with fail
          go_ret
          exact ⟨by rw [HR.out]; rfl, gb_trans HW.out HG.out⟩
end Go.Proofs.YtijpelkjeejjfaaGreatDoor
