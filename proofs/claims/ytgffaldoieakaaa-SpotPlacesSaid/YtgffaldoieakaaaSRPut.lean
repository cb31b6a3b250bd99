/- The document's Put. -/
import Derived.Test.YtgffaldoieakaaaSEdits
namespace Go.Proofs.Ytgffaldoieakaaa
open Go.RowKit

theorem elemRSp : (Try.prog.info? 54).map (fun i => (i.zero, i.size, i.bytes)) = some (some (.agg #[.int .i64 0, .int .i64 0]), 2, 16) := by kernel_rfl

def RPutPost (s : ByteArray) (l : List Ed) (w : World) (e : Ending) (w' : World) : Prop :=
  w.grownBy w' none ∧ ∃ q c, e = .returned (.tuple #[.string ⟨(putL s.data.toList l).toArray⟩, .slice q l.length c]) ∧ OwnQ 54 w' w.heap.size (.slice q l.length c) ((putSt s.data.toList l).2.2.map spV)

theorem ba_data (a : ByteArray) {x : List UInt8} (h : a.data.toList = x) : a = ⟨x.toArray⟩ := by
  apply ByteArray.ext
  apply Array.toList_inj.1
  rw [h]

theorem ext_list (s : ByteArray) (a b : Nat) : (s.extract a b).data.toList = (s.data.toList.take b).drop a := by
  rw [ByteArray.data_extract, Array.toList_extract, List.extract_eq_take_drop, List.drop_take]

theorem app_list (a b : ByteArray) : (a ++ b).data.toList = a.data.toList ++ b.data.toList := by
  rw [ByteArray.data_append, Array.toList_append]

/-- What the loops hold: so many edits put in, the text copied up to i. -/
structure PutAt (s : ByteArray) (l : List Ed) (k i : Nat) (out : ByteArray) (sp : List (Nat × Nat)) : Prop where
  st : ∃ c P, putSt s.data.toList (l.take k) = (c, P, sp) ∧ c ≤ i ∧ out.data.toList = P ++ (s.data.toList.take i).drop c
  lo : ∀ j e, j < k → l[j]? = some e → e.1 ≤ (i : Int)
  hi : ∀ j e, k ≤ j → l[j]? = some e → (i : Int) ≤ e.1

theorem PutAt.one {s : ByteArray} {l : List Ed} {k i : Nat} {out : ByteArray} {sp : List (Nat × Nat)} (h : PutAt s l k i out sp) {t : ByteArray} (he : l[k]? = some ((i : Int), t)) :
    PutAt s l (k + 1) i (out ++ t) (sp ++ [(out.size, out.size + t.size)]) := by
  obtain ⟨c, P, h1, h2, h3⟩ := h.st
  have htk : l.take (k + 1) = l.take k ++ [((i : Int), t)] := by rw [List.take_add_one, he]; rfl
  have hos : out.data.toList.length = out.size := Array.length_toList
  refine ⟨⟨i, P ++ (s.data.toList.take i).drop c ++ t.data.toList, ?_, Nat.le_refl _, ?_⟩, ?_, fun j e hj => h.hi j e (by omega)⟩
  · rw [htk, putSt_snoc, h1]
    unfold putStep
    simp only [Int.toNat_natCast]
    rw [← h3, hos]
  · rw [app_list, h3, List.drop_of_length_le (i := i) (l := s.data.toList.take i) (by rw [List.length_take]; omega), List.append_nil]
  · intro j e hj hje
    by_cases hjk : j = k
    · subst hjk
      rw [he] at hje
      injection hje with hje
      subst hje
      exact Int.le_refl _
    · exact h.lo j e (by omega) hje

theorem PutAt.byte {s : ByteArray} {l : List Ed} {k i : Nat} {out : ByteArray} {sp : List (Nat × Nat)} (h : PutAt s l k i out sp) (hi : i < s.size) (hn : ∀ j e, k ≤ j → l[j]? = some e → (i : Int) < e.1) :
    PutAt s l k (i + 1) (out ++ s.extract i (i + 1)) sp := by
  obtain ⟨c, P, h1, h2, h3⟩ := h.st
  have hsl : s.data.toList.length = s.size := Array.length_toList
  refine ⟨⟨c, P, h1, by omega, ?_⟩, fun j e hj hje => by have := h.lo j e hj hje; omega, fun j e hj hje => by have := hn j e hj hje; omega⟩
  rw [app_list, ext_list, h3, List.append_assoc]
  congr 1
  rw [List.take_add_one, List.getElem?_eq_getElem (by omega)]
  rw [List.drop_append_of_le_length (by rw [List.length_take]; omega), List.drop_append_of_le_length (by rw [List.length_take]; omega)]
  rw [List.drop_of_length_le (i := i) (by rw [List.length_take]; omega), List.nil_append]

theorem PutAt.end {s : ByteArray} {l : List Ed} {k : Nat} {out : ByteArray} {sp : List (Nat × Nat)} (h : PutAt s l k s.size out sp) (hn : ∀ j e, k ≤ j → l[j]? = some e → ((s.size : Nat) : Int) < e.1) :
    PutAt s l k (s.size + 1) out sp := by
  obtain ⟨c, P, h1, h2, h3⟩ := h.st
  have hsl : s.data.toList.length = s.size := Array.length_toList
  refine ⟨⟨c, P, h1, by omega, ?_⟩, fun j e hj hje => by have := h.lo j e hj hje; omega, fun j e hj hje => by have := hn j e hj hje; omega⟩
  rw [h3, List.take_of_length_le (by omega), List.take_of_length_le (by omega)]

theorem PutAt.all {s : ByteArray} {l : List Ed} {k : Nat} {out : ByteArray} {sp : List (Nat × Nat)} (h : PutAt s l k (s.size + 1) out sp) (hk : k ≤ l.length) (hb : ∀ e ∈ l, e.1 ≤ s.size) :
    out = ⟨(putL s.data.toList l).toArray⟩ ∧ (putSt s.data.toList l).2.2 = sp ∧ k = l.length := by
  have hkl : k = l.length := by
    refine Nat.le_antisymm hk (Nat.le_of_not_lt fun hlt => ?_)
    have h1 := h.hi k l[k] (Nat.le_refl _) (List.getElem?_eq_getElem hlt)
    have h2 := hb _ (List.getElem_mem hlt)
    omega
  obtain ⟨c, P, h1, h2, h3⟩ := h.st
  have hsl : s.data.toList.length = s.size := Array.length_toList
  rw [hkl, List.take_length] at h1
  refine ⟨ba_data _ ?_, by rw [h1], hkl⟩
  rw [h3]
  unfold putL
  rw [h1, List.take_of_length_le (by omega)]

theorem PutAt.len {s : ByteArray} {l : List Ed} {k i : Nat} {out : ByteArray} {sp : List (Nat × Nat)} (h : PutAt s l k i out sp) (hr : rightB s.size l = true) (hk : k ≤ l.length) (his : i ≤ s.size + 1) : out.size ≤ 131072 ∧ sp.length = k := by
  obtain ⟨hn6, hpw, hbd, hsz6⟩ := rightB_all hr
  have hsl : s.data.toList.length = s.size := Array.length_toList
  obtain ⟨i1, i2, i3, -⟩ := putSt_inv (s := s.data.toList) hpw (by rw [hsl]; exact hbd) k hk
  obtain ⟨c, P, h1, h2, h3⟩ := h.st
  rw [h1] at i1 i2 i3
  simp only at i1 i2 i3
  have hos : out.data.toList.length = out.size := Array.length_toList
  rw [h3, List.length_append, List.length_drop, List.length_take] at hos
  have hszk : sizes l = sizes (l.take k) + sizes (l.drop k) := by
    unfold sizes; rw [← List.sum_append, ← List.map_append, List.take_append_drop]
  exact ⟨by omega, i3⟩

set_option maxRecDepth 100000 in
set_option maxHeartbeats 8000000 in
theorem RPut_c (s : ByteArray) (p : Option Addr) (c : Nat) (l : List Ed) (w : World) (hs : s.size ≤ 300) (hl : l.length ≤ 20) (hsm : smallE l = true) (hr : rightB s.size l = true) (h : QAt w p (l.map edV)) :
    Calls Try.prog 17 #[.string s, .slice p l.length c] w (RPutPost s l w) := by
  obtain ⟨n, hsz⟩ : ∃ n, s.size = n := ⟨_, rfl⟩
  obtain ⟨m, hm⟩ : ∃ m, l.length = m := ⟨_, rfl⟩
  have HM := Lib.hid hm; have HA := Lib.hid h; have HSM := Lib.hid hsm; have HR := Lib.hid hr; have HN := Lib.hid hsz
  rw [hsz] at hs
  rw [hm] at hl ⊢
  have HBD : Hid (∀ e ∈ l, 0 ≤ e.1 ∧ e.1 ≤ (n : Int) ∧ e.2.size ≤ 200) := Lib.hid fun e he => by
    obtain ⟨-, -, hbd, -⟩ := rightB_all hr
    have h1 := hbd e he
    unfold smallE at hsm
    rw [List.all_eq_true] at hsm
    have h2 := hsm e he
    simp only [decide_eq_true_eq] at h2
    omega
  have HST : Hid (∀ (j j' : Nat) (e e' : Ed), l[j]? = some e → l[j']? = some e' → j ≤ j' → e.1 ≤ e'.1) := Lib.hid fun j j' e e' h1 h2 hj => by
    obtain ⟨-, hpw, -, -⟩ := rightB_all hr
    obtain ⟨g1, g2⟩ := List.getElem?_eq_some_iff.1 h1
    obtain ⟨k1, k2⟩ := List.getElem?_eq_some_iff.1 h2
    by_cases he : j = j'
    · subst he
      rw [h1] at h2; injection h2 with h2; subst h2; exact Int.le_refl _
    · have := List.pairwise_iff_getElem.1 hpw j j' g1 k1 (Nat.lt_of_le_of_ne hj he)
      rw [g2, k2] at this
      exact this
  clear hm h hsm hr hsz
  go_enter Try.func17, Try.ntmps17
  go_wp2_with fail
  go_loopw [6, 7, 8, 9] (fun ov sv kv iv wr => ∃ (k i : Nat) (out : ByteArray) (sp : List (Nat × Nat)), k ≤ m ∧ i ≤ n + 1 ∧ iv = .int .i64 i ∧ kv = .int .i64 k ∧ ov = .string out ∧ Hid (PutAt s l k i out sp) ∧ Hid (OwnQ 54 wr w.heap.size sv (sp.map spV)) ∧ Hid (w.grownBy wr none)) (fun _ _ _ i _ => n + 1 - (intOf i).toNat)
  case atStart => exact ⟨0, 0, ⟨#[]⟩, [], by omega, by omega, rfl, rfl, rfl, Lib.hid ⟨⟨0, [], rfl, Nat.le_refl _, rfl⟩, fun j e hj => by omega, fun j e _ hj => (HBD.out e (List.mem_of_getElem? hj)).1⟩, Lib.hid (OwnQ.nil _ _ _), gb_refl _ _⟩
  case round =>
    obtain ⟨k0, i, out0, sp0, hk0, hi, rfl, rfl, rfl, HP0, HOW0, HG0⟩ := hrel
    have hsz := HN.out
    by_cases hin : i ≤ n
    · have d1 : decide ((i : Int) ≤ n) = true := decide_eq_true (by omega)
      have d1' : decide (i ≤ n) = true := decide_eq_true hin
      go_wp2_with fail
      go_loopw [6, 7, 8] (fun ov sv kv wr => ∃ (k : Nat) (out : ByteArray) (sp : List (Nat × Nat)), k ≤ m ∧ kv = .int .i64 k ∧ ov = .string out ∧ Hid (PutAt s l k i out sp) ∧ Hid (OwnQ 54 wr w.heap.size sv (sp.map spV)) ∧ Hid (w.grownBy wr none)) (fun _ _ k _ => m - (intOf k).toNat)
      case atStart => exact ⟨k0, out0, sp0, hk0, rfl, rfl, HP0, HOW0, HG0⟩
      case round =>
        clear HP0 HOW0 HG0
        obtain ⟨k, out, sp, hk, rfl, rfl, HP, HOW, HG⟩ := hrel
        obtain ⟨holn, hspl⟩ := HP.out.len HR.out (by rw [HM.out]; exact hk) (by rw [HN.out]; exact hi)
        obtain ⟨on, hon⟩ : ∃ on, out.size = on := ⟨_, rfl⟩
        rw [hon] at holn
        have HON := Lib.hid hon
        have HSPL : Hid ((sp.map spV).length ≤ 1000000) := Lib.hid (by rw [List.length_map, hspl]; omega)
        have HSPE := Lib.hid hspl
        clear hspl
        by_cases hlt : k < m
        · obtain ⟨⟨at', tx⟩, he⟩ : ∃ e, l[k]? = some e := ⟨l[k]'(by rw [HM.out]; exact hlt), List.getElem?_eq_getElem _⟩
          obtain ⟨g, off, rfl, hgl, hc⟩ := HA.out.resolve_left (fun h => by have h1 := HM.out; simp at h; rw [h] at h1; simp at h1; omega)
          obtain ⟨c0, c1⟩ := hc k (.int .i64 at', .string tx) (by rw [List.getElem?_map, he]; rfl)
          have c0 := HG.out.cell c0 (by simp)
          have c1 := HG.out.cell c1 (by simp)
          have d2 : decide ((k : Int) < m) = true := decide_eq_true (by omega)
          have d2' : decide (k < m) = true := decide_eq_true hlt
          have HE := Lib.hid he
          obtain ⟨z, hz⟩ : ∃ z, tx.size = z := ⟨_, rfl⟩
          have hz2 : z ≤ 200 := by
            have := (HBD.out _ (List.mem_of_getElem? he)).2.2
            simp only at this
            omega
          have HZ := Lib.hid hz
          clear hc he
          by_cases heq : at' = (i : Int)
          · subst heq
            have hb : ((i : Int) == (i : Int)) = true := by simp
            have hw : IntKind.i64.wrap ((on : Int) + z) = (on : Int) + z := IntWalk.i64_in _ (by omega)
            have HP2 : Hid (PutAt s l (k + 1) i (out ++ tx) (sp ++ [(on, on + z)])) := Lib.hid (by have := HP.out.one HE.out; rw [HON.out, HZ.out] at this; exact this)
            clear HE
            go_wp2_with (at_builtin; go_loud (refine wpList_appQ (t := 46) (T := 54) Try.underlying46 elemRSp rfl (by omega) rfl _ _ rfl w.heap.size (sp.map spV) (.int .i64 (on : Int)) (.int .i64 ((on : Int) + z)) rfl rfl u7 rfl HOW.out _ rfl rfl HSPL.out HG.out.size ?_))
            intro g' cap' w6 hO6 hB6 _
            have HO6 : Hid (OwnQ 54 w6 w.heap.size (.slice (some ⟨g', 0, none⟩) (sp.length + 1) cap') ((sp ++ [(on, on + z)]).map spV)) := Lib.hid (by rw [List.map_append]; show OwnQ _ _ _ _ (sp.map spV ++ [(.int .i64 (on : Nat), .int .i64 ((on + z : Nat) : Int))]); rw [Int.natCast_add]; exact hO6)
            have HG6 : Hid (w.grownBy w6 none) := Lib.hid (below_gb (Below.trans2 (gb_below HG.out) hB6))
            have c2 : w6.cell? ⟨g, off + k * 2 + 1, none⟩ = some (.string tx) := (hB6.cell (p := ⟨g, off + k * 2 + 1, none⟩) hgl).trans c1
            clear hO6 hB6 hgl c0 c1
            go_wp2_with fail
            go_roundw
            case rel => exact ⟨k + 1, out ++ tx, _, by omega, by go_num, rfl, HP2, HO6, HG6⟩
            case measure => (simp [intOf] <;> omega)
          · have hb : (at' == (i : Int)) = false := by simp; exact heq
            have HLV : Hid (∀ j e, k ≤ j → l[j]? = some e → (i : Int) < e.1) := Lib.hid fun j e hj hje => by
              have h1 := HP.out.hi k _ (Nat.le_refl _) HE.out
              have h2 := HST.out k j _ e HE.out hje hj
              simp only at h1 h2
              omega
            by_cases hib : i < n
            · have d3 : decide ((i : Int) < n) = true := decide_eq_true (by omega)
              have d3' : decide (i < n) = true := decide_eq_true hib
              have HP2 : Hid (PutAt s l k (i + 1) (out ++ s.extract i (i + 1)) sp) := Lib.hid (HP.out.byte (by rw [HN.out]; exact hib) HLV.out)
              go_wp2_with fail
              go_roundw
              case rel => exact ⟨k, i + 1, _, sp, by omega, by omega, by first | rfl | go_num, rfl, rfl, HP2, HOW, HG⟩
              case measure => (simp [intOf] <;> omega)
            · obtain rfl : i = n := by omega
              have d3 : decide ((i : Int) < i) = false := decide_eq_false (by omega)
              have d3' : decide (i < i) = false := decide_eq_false hib
              have HP2 : Hid (PutAt s l k (i + 1) out sp) := Lib.hid (by have := HP.out; rw [← HN.out] at this ⊢; exact this.end (by have := HLV.out; rw [← HN.out] at this; exact this))
              go_wp2_with fail
              go_roundw
              case rel => exact ⟨k, i + 1, _, sp, by omega, by omega, by first | rfl | go_num, rfl, rfl, HP2, HOW, HG⟩
              case measure => (simp [intOf] <;> omega)
        · obtain rfl : k = m := by omega
          have d2 : decide ((k : Int) < k) = false := decide_eq_false (by omega)
          have d2' : decide (k < k) = false := decide_eq_false hlt
          have HLV : Hid (∀ j e, k ≤ j → l[j]? = some e → (i : Int) < e.1) := Lib.hid fun j e hj hje => by
            have := (List.getElem?_eq_some_iff.1 hje).1
            have := HM.out
            omega
          by_cases hib : i < n
          · have d3 : decide ((i : Int) < n) = true := decide_eq_true (by omega)
            have d3' : decide (i < n) = true := decide_eq_true hib
            have HP2 : Hid (PutAt s l k (i + 1) (out ++ s.extract i (i + 1)) sp) := Lib.hid (HP.out.byte (by rw [HN.out]; exact hib) HLV.out)
            go_wp2_with fail
            go_roundw
            case rel => exact ⟨k, i + 1, _, sp, by omega, by omega, by first | rfl | go_num, rfl, rfl, HP2, HOW, HG⟩
            case measure => (simp [intOf] <;> omega)
          · obtain rfl : i = n := by omega
            have d3 : decide ((i : Int) < i) = false := decide_eq_false (by omega)
            have d3' : decide (i < i) = false := decide_eq_false hib
            have HP2 : Hid (PutAt s l k (i + 1) out sp) := Lib.hid (by have := HP.out; rw [← HN.out] at this ⊢; exact this.end (by have := HLV.out; rw [← HN.out] at this; exact this))
            go_wp2_with fail
            go_roundw
            case rel => exact ⟨k, i + 1, _, sp, by omega, by omega, by first | rfl | go_num, rfl, rfl, HP2, HOW, HG⟩
            case measure => (simp [intOf] <;> omega)
    · obtain rfl : i = n + 1 := by omega
      have d1 : decide (((n + 1 : Nat) : Int) ≤ n) = false := decide_eq_false (by omega)
      have d1' : decide (n + 1 ≤ n) = false := decide_eq_false hin
      have d1'' : decide ((n : Int) + 1 ≤ n) = false := decide_eq_false (by omega)
      have hall := HP0.out
      rw [← HN.out] at hall
      obtain ⟨a1, a2, a3⟩ := hall.all (by rw [HM.out]; exact hk0) (fun e he => by have := (HBD.out e he).2.1; rw [← HN.out] at this; exact this)
      have A1 := Lib.hid a1; have A2 := Lib.hid a2
      obtain ⟨q, c', hq, -⟩ := HOW0.out.is
      have hspl : (sp0.map spV).length = m := by
        have := (HP0.out.len HR.out (by rw [HM.out]; exact hk0) (by rw [HN.out]; exact Nat.le_refl _)).2
        rw [List.length_map, this, a3, HM.out]
      have HQ := Lib.hid (hspl ▸ hq)
      clear hq hspl hall a1 a2 a3
      go_wp2_with fail
      go_ret2
      refine ⟨HG0.out, q, c', ?_, ?_⟩
      · rw [HQ.out, A1.out, HM.out]; rfl
      · rw [A2.out, HM.out, ← HQ.out]; exact HOW0.out
end Go.Proofs.Ytgffaldoieakaaa
