/- Lemmas. -/
import Derived.Test.YtccokidhngdjnaaGreatDoorP13
import Derived.Test.YtccokidhngdjnaaGreatDoorP7
set_option linter.unusedVariables false
set_option linter.unusedSimpArgs false
namespace Go.Proofs.YtccokidhngdjnaaGreatDoor.Zd
open Go.RowKit Mx

def minus (l : List UInt8) : Bool := Lib.hasPrefix l [45]
def digs (l : List UInt8) : List UInt8 := Lib.trimPrefix l [45]
/-- The number that digits tell. -/
def valL (l : List UInt8) : Nat := l.foldl (fun a b => 10 * a + (b.toNat - 48)) 0
def parseE (l : List UInt8) : Int := if 60 < (digs l).length then 11 else if plain (digs l) = false ∨ (minus l = true ∧ digs l = [48]) then 10 else 0
def parseV (l : List UInt8) : Int := if parseE l = 0 then sgn (minus l) (valL (digs l)) else 0

def ParsePost (l : List UInt8) (w : World) (e : Ending) (w' : World) : Prop := ∃ x, e = .returned (.tuple #[x, .int .i64 (parseE l)]) ∧ IsInt w' x (parseV l) ∧ w.grownBy w' none ∧ ∀ s p n c, x = .agg #[.bool s, .slice p n c] → 0 < n → ∃ a, p = some a ∧ w.heap.size ≤ a.block

theorem plain_dig {l : List UInt8} (h : plain l = true) (j : Nat) (hj : j < l.length) : 48 ≤ l[j].toNat ∧ l[j].toNat ≤ 57 := by
  unfold plain at h
  rw [Bool.and_eq_true, List.all_eq_true] at h
  exact of_decide_eq_true (h.1 _ (List.getElem_mem hj))

theorem valL_take {l : List UInt8} {k : Nat} (hk : k < l.length) : valL (l.take (k + 1)) = 10 * valL (l.take k) + (l[k].toNat - 48) := by
  rw [List.take_add_one, List.getElem?_eq_getElem hk]
  unfold valL
  rw [List.foldl_append]; rfl

theorem cut_c (s : ByteArray) (w : World) : Calls Tryz.prog 24 #[.string s, .string ⟨#[45]⟩] w fun e w' => e = .returned (.tuple #[.string ⟨(digs s.data.toList).toArray⟩, .bool (minus s.data.toList)]) ∧ w' = w :=
  Tryz.strings_CutPrefix s ⟨#[45]⟩ w

theorem zero_int (w : World) : IsInt w (.agg #[.bool false, .slice none 0 0]) 0 :=
  ⟨false, _, 0, rfl, ⟨none, 0, 0, fun _ => 0, rfl, Nat.le_refl _, by omega, .inl rfl, fun j h => by omega, .inl rfl, rfl⟩, by simp, rfl⟩

theorem bad_parse {l : List UInt8} {w : World} {E : Int} (hE : parseE l = E) (h : E ≠ 0) : ParsePost l w (.returned (.tuple #[.agg #[.bool false, .slice none 0 0], .int .i64 E])) (w.alloc (.cells #[.bool false, .slice none 0 0] 27)) :=
  ⟨_, by rw [hE], by unfold parseV; rw [hE, if_neg h]; exact zero_int _, gb_alloc (gb_refl w none) _, fun s p n c h h0 => by simp at h; omega⟩

theorem int_some {w : World} {s : Bool} {p : Option Addr} {n c : Nat} {Z : Int} (h : IsInt w (.agg #[.bool s, .slice p n c]) Z) (hn : 0 < n) : ∃ a, p = some a ∧ a.block < w.heap.size := by
  obtain ⟨s', v, N, he, ⟨p', n', c', f, rfl, _, _, hat, _⟩, _⟩ := h
  simp at he
  obtain ⟨rfl, rfl, rfl, rfl⟩ := he
  rcases hat with h | ⟨g, off, rfl, hg, _⟩
  · omega
  · exact ⟨_, rfl, hg⟩

def SgnPost (p : Option Addr) (Z : Int) (w : World) (e : Ending) (w' : World) : Prop := ∃ s3 p3 n3 c3, e = .returned (.agg #[.bool s3, .slice p3 n3 c3]) ∧ IsInt w' (.agg #[.bool s3, .slice p3 n3 c3]) Z ∧ w.grownBy w' none ∧ (0 < n3 → p3 = p)

theorem sgn_fin {b s : Bool} {p p' : Option Addr} {m cap' : Nat} {Z : Int} {w w' : World} (h : IntPost Z w (.returned (.agg #[.bool (s && b), .slice p' m cap'])) w') (q7 : 0 < m → p' = p) : SgnPost p Z w (.returned (.agg #[.bool (s && b), .slice p' m cap'])) w' := by
  obtain ⟨x, e, h1, h2⟩ := h
  injection e with e
  subst e
  exact ⟨_, _, _, _, rfl, h1, h2, q7⟩

set_option maxHeartbeats 1000000 in
theorem signed_p (s : Bool) (p : Option Addr) (n cap : Nat) (f : Nat → Nat) (w : World) (hn : n ≤ cap) (hc : cap ≤ maxLen) (h : At .u64 w p n f) (hf : ∀ j, j < n → f j < Bw) :
    Calls Tryz.prog 27 #[.bool s, .slice p n cap] w (SgnPost p (sgn s (V Bw f 0 n)) w) := by
  have HT := Lib.hid (fun w1 (hg : w.grownBy w1 none) => trim_c p n cap f w1 hn hc (h.grown hg (by simp)))
  have HH := Lib.hid h; have HF := Lib.hid hf
  clear h hf
  cases s
  · go_enter Tryz.func27, Tryz.ntmps27
    go_wp2_with (go_at_call 45; refine (HT.out _ ?_).mono ?_; (exact World.grownBy_alloc w _ none); rintro e w1 ⟨m, p', cap', rfl, q1, q2, q3, q4, q5, q6, q7, rfl⟩; have Q4 := Lib.hid q4; have Q5 := Lib.hid q5; have Q7 := Lib.hid q7; clear q4 q5 q6 q7)
    have hfin := sgn_fin (signed_fin (s := false) q1 q2 (Nat.le_trans q3 hc) HH.out HF.out Q4.out Q5.out Q7.out) Q7.out
    have HFIN := Lib.hid hfin
    clear hfin
    exact bodyPost_ret (v := .agg #[.bool (false && decide (0 < m)), .slice p' m cap']) (by simp [results, Tryz.results27, go_sem]) rfl HFIN.out
  · go_enter Tryz.func27, Tryz.ntmps27
    go_wp2_with (go_at_call 45; refine (HT.out _ ?_).mono ?_; (exact World.grownBy_alloc w _ none); rintro e w1 ⟨m, p', cap', rfl, q1, q2, q3, q4, q5, q6, q7, rfl⟩; have Q4 := Lib.hid q4; have Q5 := Lib.hid q5; have Q7 := Lib.hid q7; clear q4 q5 q6 q7)
    have hfin := sgn_fin (signed_fin (s := true) q1 q2 (Nat.le_trans q3 hc) HH.out HF.out Q4.out Q5.out Q7.out) Q7.out
    have HFIN := Lib.hid hfin
    clear hfin
    exact bodyPost_ret (v := .agg #[.bool (true && decide (0 < m)), .slice p' m cap']) (by simp [results, Tryz.results27, go_sem]) rfl HFIN.out

/-- What lies behind the rounds. -/
def PRel (l : List UInt8) (w : World) (k : Nat) (v : Value) (wr : World) : Prop :=
  ∃ (mm : Nat) (f : Nat → Nat), mm ≤ k ∧ Own .u64 70 wr (w.heap.size + 1) v mm f ∧ (∀ j, j < mm → f j < Bw) ∧ V Bw f 0 mm = valL (l.take k) ∧ Below (w.heap.size + 1) (w.alloc (.cells #[.bool false, .slice none 0 0] 27)) wr

set_option maxHeartbeats 2000000 in
theorem Parse_c (s : ByteArray) (w : World) : Calls Tryz.prog 11 #[.string s] w (ParsePost s.data.toList w) := by
  obtain ⟨d, hd⟩ : ∃ d : ByteArray, d = ⟨(digs s.data.toList).toArray⟩ := ⟨_, rfl⟩
  have hdl : d.data.toList = digs s.data.toList := by rw [hd]
  have hds : d.size = (digs s.data.toList).length := by rw [← hdl]; exact (Array.length_toList).symm
  obtain ⟨m, hm⟩ : ∃ m, minus s.data.toList = m := ⟨_, rfl⟩
  obtain ⟨n, hn⟩ : ∃ n, (digs s.data.toList).length = n := ⟨_, rfl⟩
  rw [hn] at hds
  have HD := Lib.hid hdl; have HM := Lib.hid hm; have HNN := Lib.hid hn
  have hcut : ∀ w, Calls Tryz.prog 24 #[.string s, .string ⟨#[45]⟩] w fun e w' => e = .returned (.tuple #[.string d, .bool m]) ∧ w' = w := by
    intro w; rw [hd, ← hm]; exact cut_c s w
  have HCUT := Lib.hid hcut
  clear hcut hd hdl hm hn
  by_cases h60 : 60 < n
  · have d1 : decide ((60 : Int) < n) = true := decide_eq_true (by omega)
    have hE : parseE s.data.toList = 11 := by unfold parseE; rw [HNN.out, if_pos h60]
    have HE := Lib.hid hE
    clear hE
    go_enter Tryz.func11, Tryz.ntmps11
    go_wp2_with (go_at_call 24; refine (HCUT.out _).mono ?_; rintro e w1 ⟨rfl, rfl⟩)
    exact bodyPost_ret (v := .tuple #[.agg #[.bool false, .slice none 0 0], .int .i64 11]) (by simp [results, Tryz.results11, go_sem]) rfl (bad_parse HE.out (by decide))
  · have d1 : decide ((60 : Int) < n) = false := decide_eq_false (by omega)
    obtain ⟨pb, hpb⟩ : ∃ pb, plain (digs s.data.toList) = pb := ⟨_, rfl⟩
    have HPB := Lib.hid hpb
    have hpl : ∀ w, Calls Tryz.prog 25 #[.string d] w (fun e w' => e = .returned (.bool pb) ∧ w' = w) := by
      intro w
      have := plain_c d w (by rw [HD.out, HNN.out]; omega)
      rwa [HD.out, hpb] at this
    have HPL := Lib.hid hpl
    have hE : parseE s.data.toList = if pb = false ∨ (m = true ∧ digs s.data.toList = [48]) then 10 else 0 := by unfold parseE; rw [HNN.out, if_neg h60, hpb, HM.out]
    have HE := Lib.hid hE
    clear hE hpl hpb
    cases pb
    · have hE : parseE s.data.toList = 10 := by rw [HE.out, if_pos (.inl rfl)]
      have HE := Lib.hid hE
      clear hE
      go_enter Tryz.func11, Tryz.ntmps11
      go_wp2_with (first
        | (go_at_call 24; refine (HCUT.out _).mono ?_; rintro e w1 ⟨rfl, rfl⟩)
        | (go_at_call 25; refine (HPL.out _).mono ?_; rintro e w1 ⟨rfl, rfl⟩))
      exact bodyPost_ret (v := .tuple #[.agg #[.bool false, .slice none 0 0], .int .i64 10]) (by simp [results, Tryz.results11, go_sem]) rfl (bad_parse HE.out (by decide))
    · by_cases h0 : m = true ∧ digs s.data.toList = [48]
      · obtain ⟨h01, h0⟩ := h0
        have hE : parseE s.data.toList = 10 := by rw [HE.out, if_pos (.inr ⟨h01, h0⟩)]
        subst h01
        have HE2 := Lib.hid hE
        have c1 : (d.toList == [48]) = true := by rw [toList_data, HD.out, h0]; rfl
        clear hE h0 HE
        go_enter Tryz.func11, Tryz.ntmps11
        go_wp2_with (first
          | (go_at_call 24; refine (HCUT.out _).mono ?_; rintro e w1 ⟨rfl, rfl⟩)
          | (go_at_call 25; refine (HPL.out _).mono ?_; rintro e w1 ⟨rfl, rfl⟩))
        exact bodyPost_ret (v := .tuple #[.agg #[.bool false, .slice none 0 0], .int .i64 10]) (by simp [results, Tryz.results11, go_sem]) rfl (bad_parse HE2.out (by decide))
      · have hE : parseE s.data.toList = 0 := by rw [HE.out, if_neg (by rintro (h | h); · cases h
                                                                        · exact h0 h)]
        have HE2 := Lib.hid hE
        have hp1 : plain (digs s.data.toList) = true := HPB.out
        have hdig := plain_dig hp1
        have HDIG := Lib.hid hdig
        have hstart : PRel (digs s.data.toList) w 0 (.slice none 0 0) (w.alloc (.cells #[.bool false, .slice none 0 0] 27)) :=
          ⟨0, fun _ => 0, Nat.le_refl _, ⟨rfl, .inl ⟨rfl, rfl⟩⟩, fun j h => by omega, by simp [V, valL], Below.refl _ _⟩
        have HST := Lib.hid hstart
        clear hE HE hp1 hdig hstart
        cases m
        · clear h0
          go_enter Tryz.func11, Tryz.ntmps11
          go_wp2_with (first
            | (go_at_call 24; refine (HCUT.out _).mono ?_; rintro e w1 ⟨rfl, rfl⟩)
            | (go_at_call 25; refine (HPL.out _).mono ?_; rintro e w1 ⟨rfl, rfl⟩))
          go_loopw [6, 30] (fun v i wr => ∃ k : Nat, k ≤ n ∧ i = .int .i64 k ∧ Hid (PRel (digs s.data.toList) w k v wr)) (fun _ i _ => n - (intOf i).toNat)
          case atStart => exact ⟨0, by omega, rfl, HST⟩
          case round =>
            clear HST
            obtain ⟨k, hk, rfl, HR⟩ := hrel
            by_cases hlt : k < n
            · obtain ⟨mm, f, h1, h2, h3, h4, h5⟩ := HR.out
              have hkl : k < (digs s.data.toList).length := by rw [HNN.out]; exact hlt
              obtain ⟨b, hbv⟩ : ∃ b : Nat, ((digs s.data.toList)[k]'hkl).toNat = b := ⟨_, rfl⟩
              have hix := idx_run d k b (by rw [HD.out]; exact hkl) (by rw [← hbv]; simp only [HD.out])
              have hb := HDIG.out k hkl
              rw [hbv] at hb
              have hv := valL_take hkl
              rw [hbv, ← h4] at hv
              have hsz := h5.size
              have HTP := Lib.hid (timesPlus_c (w.heap.size + 1) u6 mm 10 (b - 48) f wr h2 h3 (by unfold Bw; omega) (by unfold Bw; omega) (by omega) (by simpa using hsz))
              have HV := Lib.hid hv; have HB := Lib.hid h5
              have hb8 : IntKind.u8.wrap ((b : Int) - 48) = ((b - 48 : Nat) : Int) := by rw [IntKind.wrap_u8]; omega
              clear h2 h3 h4 h5 hv hbv hkl hsz
              go_wp2_with (go_at_call 26; refine HTP.out.mono ?_; rintro e w2 ⟨v', m', f', rfl, o1, o2, o3, o4, o5⟩; have O1 := Lib.hid o1; have O3 := Lib.hid o3; have O4 := Lib.hid o4; have O5 := Lib.hid o5; clear o1 o3 o4 o5)
              go_roundw
              case rel => exact ⟨k + 1, by omega, by go_num, m', f', by omega, O1.out, O3.out, by rw [O4.out, HV.out], HB.out.trans O5.out⟩
              case measure => simp [intOf]; omega
            · obtain rfl : k = n := by omega
              obtain ⟨mm, f, h1, h2, h3, h4, h5⟩ := HR.out
              obtain ⟨p, cap, rfl, hmc, hcm, hpa⟩ : ∃ p cap, u6 = .slice p mm cap ∧ mm ≤ cap ∧ cap ≤ maxLen ∧ ∀ a, p = some a → w.heap.size + 1 ≤ a.block := by
                rcases h2.shape with ⟨rfl, rfl⟩ | ⟨g, cap, rfl, hbg, _, hnc, hcm⟩
                · exact ⟨_, _, rfl, by omega, by omega, fun a h => by cases h⟩
                · exact ⟨_, _, rfl, hnc, hcm, fun a h => by cases h; exact hbg⟩
              rw [List.take_of_length_le (by rw [HNN.out]; omega)] at h4
              have HSG := Lib.hid (signed_p false p mm cap f wr hmc hcm h2.at.2 h3)
              have HV := Lib.hid h4; have HB := Lib.hid h5
              clear h2 h3 h4 h5 HR
              go_wp2_with (go_at_call 27; refine HSG.out.mono ?_; rintro e w3 ⟨s3, p3, n3, c3, rfl, hx, hg, hp3⟩; have HX := Lib.hid hx; have HP3 := Lib.hid hp3; clear hp3; have hgg := gb_trans (below_gb (row := none) (a := w.alloc (.cells #[.bool false, .slice none 0 0] 27)) (by simpa using HB.out)) hg; have HG3 := Lib.hid hgg; obtain ⟨hcr3, hfr3⟩ := bcell hgg; have hz3 : w.heap.size < w3.heap.size := (by have := hgg.size; simp at this; omega); clear hx hg hgg)
              have hb := top1 w (.cells #[.bool false, .slice none 0 0] 27)
              obtain ⟨x, e1, e2, e3⟩ := ret_box hb HG3.out HX.out (gb_alloc (gb_refl w none) _) (Nat.le_refl _)
              injection e1 with e1; subst e1
              obtain ⟨rc0, rc1⟩ := ret_cells (s := s3) (p := p3) (n := n3) (c := c3) hb HG3.out
              refine bodyPost_ret (v := .tuple #[.agg #[.bool s3, .slice p3 n3 c3], .int .i64 0]) (by simp [results, Tryz.results11, go_sem, rc0, rc1]) rfl ⟨_, by rw [HE2.out], ?_, e3, ?_⟩
              · unfold parseV
                rw [if_pos HE2.out, HM.out, ← HV.out]; exact e2
              · intro s p' n c h h0
                simp at h
                obtain ⟨rfl, rfl, rfl, rfl⟩ := h
                obtain ⟨a, ha, _⟩ := int_some e2 h0
                refine ⟨a, ha, ?_⟩
                have := hpa a (by rw [← HP3.out h0]; exact ha)
                omega
        · have c1 : (d.toList == [48]) = false := by rw [toList_data, HD.out]; exact beq_eq_false_iff_ne.2 (fun h => h0 ⟨rfl, h⟩)
          clear h0
          go_enter Tryz.func11, Tryz.ntmps11
          go_wp2_with (first
            | (go_at_call 24; refine (HCUT.out _).mono ?_; rintro e w1 ⟨rfl, rfl⟩)
            | (go_at_call 25; refine (HPL.out _).mono ?_; rintro e w1 ⟨rfl, rfl⟩))
          go_loopw [6, 30] (fun v i wr => ∃ k : Nat, k ≤ n ∧ i = .int .i64 k ∧ Hid (PRel (digs s.data.toList) w k v wr)) (fun _ i _ => n - (intOf i).toNat)
          case atStart => exact ⟨0, by omega, rfl, HST⟩
          case round =>
            clear HST
            obtain ⟨k, hk, rfl, HR⟩ := hrel
            by_cases hlt : k < n
            · obtain ⟨mm, f, h1, h2, h3, h4, h5⟩ := HR.out
              have hkl : k < (digs s.data.toList).length := by rw [HNN.out]; exact hlt
              obtain ⟨b, hbv⟩ : ∃ b : Nat, ((digs s.data.toList)[k]'hkl).toNat = b := ⟨_, rfl⟩
              have hix := idx_run d k b (by rw [HD.out]; exact hkl) (by rw [← hbv]; simp only [HD.out])
              have hb := HDIG.out k hkl
              rw [hbv] at hb
              have hv := valL_take hkl
              rw [hbv, ← h4] at hv
              have hsz := h5.size
              have HTP := Lib.hid (timesPlus_c (w.heap.size + 1) u6 mm 10 (b - 48) f wr h2 h3 (by unfold Bw; omega) (by unfold Bw; omega) (by omega) (by simpa using hsz))
              have HV := Lib.hid hv; have HB := Lib.hid h5
              have hb8 : IntKind.u8.wrap ((b : Int) - 48) = ((b - 48 : Nat) : Int) := by rw [IntKind.wrap_u8]; omega
              clear h2 h3 h4 h5 hv hbv hkl hsz
              go_wp2_with (go_at_call 26; refine HTP.out.mono ?_; rintro e w2 ⟨v', m', f', rfl, o1, o2, o3, o4, o5⟩; have O1 := Lib.hid o1; have O3 := Lib.hid o3; have O4 := Lib.hid o4; have O5 := Lib.hid o5; clear o1 o3 o4 o5)
              go_roundw
              case rel => exact ⟨k + 1, by omega, by go_num, m', f', by omega, O1.out, O3.out, by rw [O4.out, HV.out], HB.out.trans O5.out⟩
              case measure => simp [intOf]; omega
            · obtain rfl : k = n := by omega
              obtain ⟨mm, f, h1, h2, h3, h4, h5⟩ := HR.out
              obtain ⟨p, cap, rfl, hmc, hcm, hpa⟩ : ∃ p cap, u6 = .slice p mm cap ∧ mm ≤ cap ∧ cap ≤ maxLen ∧ ∀ a, p = some a → w.heap.size + 1 ≤ a.block := by
                rcases h2.shape with ⟨rfl, rfl⟩ | ⟨g, cap, rfl, hbg, _, hnc, hcm⟩
                · exact ⟨_, _, rfl, by omega, by omega, fun a h => by cases h⟩
                · exact ⟨_, _, rfl, hnc, hcm, fun a h => by cases h; exact hbg⟩
              rw [List.take_of_length_le (by rw [HNN.out]; omega)] at h4
              have HSG := Lib.hid (signed_p true p mm cap f wr hmc hcm h2.at.2 h3)
              have HV := Lib.hid h4; have HB := Lib.hid h5
              clear h2 h3 h4 h5 HR
              go_wp2_with (go_at_call 27; refine HSG.out.mono ?_; rintro e w3 ⟨s3, p3, n3, c3, rfl, hx, hg, hp3⟩; have HX := Lib.hid hx; have HP3 := Lib.hid hp3; clear hp3; have hgg := gb_trans (below_gb (row := none) (a := w.alloc (.cells #[.bool false, .slice none 0 0] 27)) (by simpa using HB.out)) hg; have HG3 := Lib.hid hgg; obtain ⟨hcr3, hfr3⟩ := bcell hgg; have hz3 : w.heap.size < w3.heap.size := (by have := hgg.size; simp at this; omega); clear hx hg hgg)
              have hb := top1 w (.cells #[.bool false, .slice none 0 0] 27)
              obtain ⟨x, e1, e2, e3⟩ := ret_box hb HG3.out HX.out (gb_alloc (gb_refl w none) _) (Nat.le_refl _)
              injection e1 with e1; subst e1
              obtain ⟨rc0, rc1⟩ := ret_cells (s := s3) (p := p3) (n := n3) (c := c3) hb HG3.out
              refine bodyPost_ret (v := .tuple #[.agg #[.bool s3, .slice p3 n3 c3], .int .i64 0]) (by simp [results, Tryz.results11, go_sem, rc0, rc1]) rfl ⟨_, by rw [HE2.out], ?_, e3, ?_⟩
              · unfold parseV
                rw [if_pos HE2.out, HM.out, ← HV.out]; exact e2
              · intro s p' n c h h0
                simp at h
                obtain ⟨rfl, rfl, rfl, rfl⟩ := h
                obtain ⟨a, ha, _⟩ := int_some e2 h0
                refine ⟨a, ha, ?_⟩
                have := hpa a (by rw [← HP3.out h0]; exact ha)
                omega
end Go.Proofs.YtccokidhngdjnaaGreatDoor.Zd
namespace Go.Proofs.YtccokidhngdjnaaGreatDoor
open Go.RowKit

theorem WrAt.kept {S : Nat → Prop} {B b : Nat} {w w2 : World} {rows : List (List Value)} (h : WrAt S B b w rows) (hg : w.grownBy w2 none) : WrAt S B b w2 rows := by
  obtain ⟨v, hb, hO, hbB, hB, hSb, hSv, hSs⟩ := h
  exact ⟨v, bx hg hb, hO.kept hg, hbB, Nat.le_trans hB hg.size, hSb, hSv, fun k hk => Nat.lt_of_lt_of_le (hSs k hk) hg.size⟩
theorem WrAt.more {S : Nat → Prop} {B b c : Nat} {w w2 : World} {rows : List (List Value)} (h : WrAt S B b w rows) (hg : w.grownBy w2 none) (hc : w.heap.size ≤ c) (hc2 : c < w2.heap.size) : WrAt (fun k => S k ∨ k = c) B b w2 rows := by
  obtain ⟨v, hb, hO, hbB, hB, hSb, hSv, hSs⟩ := h
  have hbw := hlt hb
  refine ⟨v, bx hg hb, hO.kept hg, hbB, Nat.le_trans hB hg.size, fun e => ?_, fun k hk e => ?_, fun k hk => ?_⟩
  · rcases e with e | e
    · exact hSb e
    · omega
  · have := (hO.at k hk).2
    rcases e with e | e
    · exact hSv k hk e
    · omega
  · rcases hk with e | e
    · exact Nat.lt_of_lt_of_le (hSs k e) hg.size
    · omega
theorem WrAt.less {S : Nat → Prop} {B b c : Nat} {w : World} {rows : List (List Value)} (h : WrAt (fun k => S k ∨ k = c) B b w rows) : WrAt S B b w rows := by
  obtain ⟨v, hb, hO, hbB, hB, hSb, hSv, hSs⟩ := h
  exact ⟨v, hb, hO, hbB, hB, fun e => hSb (.inl e), fun k hk e => hSv k hk (.inl e), fun k hk => hSs k (.inl hk)⟩
theorem cat_eq (l : List UInt8) (x : UInt8) : ((⟨l.toArray⟩ : ByteArray) ++ (⟨#[x]⟩ : ByteArray)) = ⟨(l ++ [x]).toArray⟩ := by
  apply ByteArray.ext
  rw [ByteArray.data_append]
  apply Array.toList_inj.1
  simp
set_option maxRecDepth 100000 in
set_option maxHeartbeats 16000000 in
theorem list_nil9 (S : Nat → Prop) (B b : Nat) (rows : List (List Value)) (s : ByteArray) (p : Option Addr) (ck : Nat) (fv : Value) (w : World) (h : WrAt S B b w rows) :
    Calls Tryz.prog 132 #[.pointer (some ⟨b, 0, none⟩), .slice p 0 ck, .string s, fv] w (PcPost S B b rows w) := by
  have HW := Lib.hid h
  clear h
  go_enter Tryz.func132, Tryz.ntmps132
  go_wp2_with fail
  go_loopw [11] (fun iv wr => iv = .int .i64 0 ∧ wr = w) (fun _ _ => 0)
  case atStart => exact ⟨rfl, rfl⟩
  case round =>
    obtain ⟨rfl, rfl⟩ := hrel
    go_wp2_with fail
    go_end0
    exact ⟨rfl, HW.out, Fr2.refl _ _⟩
def callR (nm md : List UInt8) (gk ok n : Nat) : List (List Value) := (if md = [] then [] else [rowB (md ++ [46])]) ++ [rowB (nm ++ [40])] ++ argsR [44, 32] gk ok n ++ [rowB [41]]
set_option maxRecDepth 100000 in
set_option maxHeartbeats 16000000 in
theorem call_c9 (S : Nat → Prop) (B b : Nat) (rows : List (List Value)) (fg fo gk ok n ck : Nat) (pk : Option Addr) (nm md : List UInt8) (w : World) (h : WrAt S B b w rows) (hl : rows.length ≤ 800000) (hn : n ≤ 8) (hnl : nm.length ≤ 60000) (hml : md.length ≤ 60000) (hSf : S fg) (hpk : 0 < n → pk = some ⟨gk, ok, none⟩)
    (c1 : w.cell? ⟨fg, fo + 1, none⟩ = some (.string ⟨nm.toArray⟩)) (c2 : w.cell? ⟨fg, fo + 2, none⟩ = some (.string ⟨md.toArray⟩)) (c6 : w.cell? ⟨fg, fo + 6, none⟩ = some (.slice pk n ck)) :
    Calls Tryz.prog 107 #[.pointer (some ⟨b, 0, none⟩), .pointer (some ⟨fg, fo, none⟩)] w (PcPost S B b (rows ++ callR nm md gk ok n) w) := by
  have hfgw : fg < w.heap.size := by obtain ⟨v, -, -, -, -, -, -, hh⟩ := h; exact hh _ hSf
  obtain ⟨cb, hcb⟩ : ∃ cb, w.heap.size = cb := ⟨_, rfl⟩
  have hg := World.grownBy_alloc w (.cells #[.pointer (some ⟨b, 0, none⟩)] 102) none
  have hA := heap_alloc_new w (.cells #[.pointer (some ⟨b, 0, none⟩)] 102)
  have hsz : (w.alloc (.cells #[.pointer (some ⟨b, 0, none⟩)] 102)).heap.size = cb + 1 := by simp [hcb]
  rw [hcb] at hA
  have hW := h.more hg (Nat.le_of_eq hcb) (by rw [hsz]; omega)
  have hHS : ∀ k, S k → k < w.heap.size := by obtain ⟨v, -, -, -, -, -, -, hh⟩ := h; exact hh
  have d1 := hg.cell c1 (by simp)
  have d2 := hg.cell c2 (by simp)
  have d6 := hg.cell c6 (by simp)
  go_enter Tryz.func107, Tryz.ntmps107
  clear c1 c2 c6
  go_upto_region 1 with fail
  try rw [hcb]
  generalize (w.alloc (.cells #[.pointer (some ⟨b, 0, none⟩)] 102)) = W at *
  have z1 : ¬ 9223372036854775807 < md.length + 1 := by omega
  have z2 : ¬ 9223372036854775807 < nm.length + 1 := by omega
  have q0 : W.cell? ⟨cb, 0, none⟩ = some (.pointer (some ⟨b, 0, none⟩)) := by rw [cell_of_row W cb 0 _ _ (0, 0) hA]; rfl
  have hcw : cb < W.heap.size := by omega
  have hfW : fg < W.heap.size := Nat.lt_of_lt_of_le hfgw hg.size
  obtain ⟨S2, hS2⟩ : ∃ S2 : Nat → Prop, S2 = fun k => S k ∨ k = cb := ⟨_, rfl⟩
  have hSc : S2 cb := by rw [hS2]; exact .inr rfl
  have hSf2 : S2 fg := by rw [hS2]; exact .inl hSf
  have HEND : Hid (∀ rows' w', WrAt S2 B b w' rows' → Fr2 (fun k => ¬ S2 k) W w' → PcPost S B b rows' w (.returned (.tuple #[])) w') := Lib.hid (fun rows' w' h1 h2 => by
    rw [hS2] at h1 h2
    exact ⟨rfl, h1.less, (Fr2.none hg).trans (h2.mono (fun k hk e => hk (.inl e)))⟩)
  rw [← hS2] at hW
  have HKP : Hid (∀ W', Fr2 (fun k => ¬ S2 k) W W' → W'.cell? ⟨cb, 0, none⟩ = some (.pointer (some ⟨b, 0, none⟩)) ∧ W'.cell? ⟨fg, fo + 1, none⟩ = some (.string ⟨nm.toArray⟩) ∧ W'.cell? ⟨fg, fo + 2, none⟩ = some (.string ⟨md.toArray⟩) ∧ W'.cell? ⟨fg, fo + 6, none⟩ = some (.slice pk n ck) ∧ cb < W'.heap.size ∧ fg < W'.heap.size) := Lib.hid (fun W' hf =>
    ⟨by rw [World.cell?_of_block (w := W) (hf.block cb hcw (fun e => e hSc))]; exact q0, by rw [World.cell?_of_block (w := W) (hf.block fg hfW (fun e => e hSf2))]; exact d1, by rw [World.cell?_of_block (w := W) (hf.block fg hfW (fun e => e hSf2))]; exact d2, by rw [World.cell?_of_block (w := W) (hf.block fg hfW (fun e => e hSf2))]; exact d6, Nat.lt_of_lt_of_le hcw hf.size, Nat.lt_of_lt_of_le hfW hf.size⟩)
  have HPUT := Lib.hid (fun rows s W h h2 => put_c9 S2 B b rows s W h h2)
  have HLIST : Hid (∀ (R : List (List Value)) (W' : World), WrAt S2 B b W' R → R.length ≤ 900000 → W'.cell? ⟨cb, 0, none⟩ = some (.pointer (some ⟨b, 0, none⟩)) → Calls Tryz.prog 132 #[.pointer (some ⟨b, 0, none⟩), .slice pk n ck, .string ⟨#[44, 32]⟩, .func (.func 133) #[] #[.pointer (some ⟨cb, 0, none⟩)]] W' (PcPost S2 B b (R ++ argsR [44, 32] gk ok n) W')) := Lib.hid (fun R W' h1 h2 h3 => by
    rcases Nat.eq_zero_or_pos n with h0 | h0
    · subst h0
      have := list_nil9 S2 B b R ⟨#[44, 32]⟩ pk ck (.func (.func 133) #[] #[.pointer (some ⟨cb, 0, none⟩)]) W' h1
      simpa [argsR] using this
    · rw [hpk h0]
      exact list_c9 S2 B b cb R [44, 32] gk ok n ck W' h1 h2 (by omega) hSc h3)
  have HW0 := Lib.hid hW; have HL := Lib.hid hl; have HPK := Lib.hid hpk; have HN := Lib.hid hn
  clear hS2 hSc hSf2 hW h hl hA hsz hHS hg hSf hfgw hpk
  obtain ⟨R0, hR0⟩ : ∃ R0, rows ++ (if md = [] then [] else [rowB (md ++ [46])]) = R0 := ⟨_, rfl⟩
  have HR0 := Lib.hid hR0
  clear hR0
  by_cases hm : md = []
  focus
    have e1 : md.isEmpty = true := by subst hm; rfl
    have HW2 : Hid (WrAt S2 B b W R0) := Lib.hid (by rw [← HR0.out, if_pos hm, List.append_nil]; exact HW0.out)
    have HLR : Hid (R0.length ≤ 800001) := Lib.hid (by rw [← HR0.out, if_pos hm, List.append_nil]; have := HL.out; omega)
    clear hm
    go_wp2_with fail
    obtain ⟨w2, hw2⟩ : ∃ w2, W = w2 := ⟨W, rfl⟩
    have HF2 : Hid (Fr2 (fun k => ¬ S2 k) W w2) := Lib.hid (by rw [← hw2]; exact Fr2.refl _ _)
    rw [hw2] at HW2 q0 d1 d2 d6 hcw hfW ⊢
    clear hw2 e1
  rotate_left 1
  focus
    have e1 : md.isEmpty = false := by rw [emp_dec]; exact decide_eq_false hm
    go_wp2_with fail
    go_region_held3 (fun w' => w'.cell? ⟨cb, 0, none⟩ = some (.pointer (some ⟨b, 0, none⟩)) ∧ w'.cell? ⟨fg, fo + 1, none⟩ = some (.string ⟨nm.toArray⟩) ∧ w'.cell? ⟨fg, fo + 2, none⟩ = some (.string ⟨md.toArray⟩) ∧ w'.cell? ⟨fg, fo + 6, none⟩ = some (.slice pk n ck))
      (first | with_reducible exact ⟨q0, d1, d2, d6⟩ | go_keep)
      (first | (go_at_call 75; refine (HPUT.out _ _ _ (HW0.out.kept (by repeat (first | with_reducible exact gb_refl _ _ | with_reducible refine gb_drew ?_ | with_reducible refine gb_drewN ?_ _ | with_reducible refine gb_alloc ?_ _))) (by have := HL.out; omega)).mono ?_; rintro e w2 ⟨rfl, hw2, hf2⟩; have HW2 := Lib.hid hw2; have HF2 := Lib.hid ((Fr2.none (show W.grownBy _ none from (by repeat (first | with_reducible exact gb_refl _ _ | with_reducible refine gb_drew ?_ | with_reducible refine gb_drewN ?_ _ | with_reducible refine gb_alloc ?_ _)))).trans hf2); obtain ⟨q0, d1, d2, d6, hcw, hfW⟩ := HKP.out _ HF2.out; clear hw2 hf2))
    have HLR : Hid (R0.length ≤ 800001) := Lib.hid (by rw [← HR0.out, if_neg hm, List.length_append]; have := HL.out; simp; omega)
    have HW2 : Hid (WrAt S2 B b w2 R0) := Lib.hid (by
      have h := HW2.out
      rw [← HR0.out, if_neg hm]
      rw [cat_eq] at h
      exact h)
    clear hm e1
    go_wp2_with fail
  all_goals
    go_region_held3 (fun w' => w'.cell? ⟨cb, 0, none⟩ = some (.pointer (some ⟨b, 0, none⟩)) ∧ w'.cell? ⟨fg, fo + 1, none⟩ = some (.string ⟨nm.toArray⟩) ∧ w'.cell? ⟨fg, fo + 2, none⟩ = some (.string ⟨md.toArray⟩) ∧ w'.cell? ⟨fg, fo + 6, none⟩ = some (.slice pk n ck))
      (first | with_reducible exact ⟨q0, d1, d2, d6⟩ | go_keep)
      (first | (go_at_call 75; refine (HPUT.out _ _ _ (HW2.out.kept (by repeat (first | with_reducible exact gb_refl _ _ | with_reducible refine gb_drew ?_ | with_reducible refine gb_drewN ?_ _ | with_reducible refine gb_alloc ?_ _))) (by have := HLR.out; omega)).mono ?_; rintro e w3 ⟨rfl, hw3, hf3⟩; have HW3 := Lib.hid hw3; have HF3 := Lib.hid (HF2.out.trans ((Fr2.none (show w2.grownBy _ none from (by repeat (first | with_reducible exact gb_refl _ _ | with_reducible refine gb_drew ?_ | with_reducible refine gb_drewN ?_ _ | with_reducible refine gb_alloc ?_ _)))).trans hf3)); obtain ⟨q0, d1, d2, d6, hcw, hfW⟩ := HKP.out _ HF3.out; clear hw3 hf3))
    have HW3 : Hid (WrAt S2 B b w3 (R0 ++ [rowB (nm ++ [40])])) := Lib.hid (by
      have h := HW3.out
      rw [cat_eq] at h
      exact h)
    have HL3 : Hid ((R0 ++ [rowB (nm ++ [40])]).length ≤ 800002) := Lib.hid (by rw [List.length_append]; have := HLR.out; simp; omega)
    clear HW2
    go_wp2_with fail
    go_region_held3 (fun w' => w'.cell? ⟨cb, 0, none⟩ = some (.pointer (some ⟨b, 0, none⟩)) ∧ w'.cell? ⟨fg, fo + 1, none⟩ = some (.string ⟨nm.toArray⟩) ∧ w'.cell? ⟨fg, fo + 2, none⟩ = some (.string ⟨md.toArray⟩) ∧ w'.cell? ⟨fg, fo + 6, none⟩ = some (.slice pk n ck))
      (first | with_reducible exact ⟨q0, d1, d2, d6⟩ | go_keep)
      (first | (go_at_call 132; refine (HLIST.out _ _ (HW3.out.kept (by repeat (first | with_reducible exact gb_refl _ _ | with_reducible refine gb_drew ?_ | with_reducible refine gb_drewN ?_ _ | with_reducible refine gb_alloc ?_ _))) (by have := HL3.out; omega) (by first | with_reducible exact q0 | go_keep)).mono ?_; rintro e w4 ⟨rfl, hw4, hf4⟩; have HW4 := Lib.hid hw4; have HF4 := Lib.hid (HF3.out.trans ((Fr2.none (show w3.grownBy _ none from (by repeat (first | with_reducible exact gb_refl _ _ | with_reducible refine gb_drew ?_ | with_reducible refine gb_drewN ?_ _ | with_reducible refine gb_alloc ?_ _)))).trans hf4)); obtain ⟨q0, d1, d2, d6, hcw, hfW⟩ := HKP.out _ HF4.out; clear hw4 hf4))
    have HL4 : Hid ((R0 ++ [rowB (nm ++ [40])] ++ argsR [44, 32] gk ok n).length ≤ 800020) := Lib.hid (by rw [List.length_append]; have := HL3.out; have := argsR_len [44, 32] gk ok n; have := HN.out; omega)
    go_wp2_with fail
    refine (HPUT.out _ _ w4 HW4.out (by have := HL4.out; omega)).mono ?_
    rintro e w5 ⟨rfl, hw5, hf5⟩
    have HF5 := Lib.hid (HF4.out.trans hf5)
    have HW5 : Hid (WrAt S2 B b w5 (rows ++ callR nm md gk ok n)) := Lib.hid (by
      unfold callR
      rw [← List.append_assoc, ← List.append_assoc, ← List.append_assoc, HR0.out]
      exact hw5)
    clear hw5 hf5
    go_wp2_with fail
    go_end0
    exact HEND.out _ _ HW5.out HF5.out

def signs9 : List (List UInt8) := [[43], [45], [42], [47], [37], [61], [60, 62], [60], [60, 61], [62], [62, 61], [38, 38], [124, 124], [61, 62]]
/-- The signs of the shows lie in their variable. -/
def LaidW (w : World) : Prop := ∀ (j : Nat) (l : List UInt8), signs9[j]? = some l → w.cell? ⟨3, j, none⟩ = some (.string ⟨l.toArray⟩)
theorem signT_get {j : Nat} {l : List UInt8} (h : signs9[j]? = some l) : signS ((7 + j : Nat) : Int) = l := by
  unfold signS
  rw [show (((7 + j : Nat) : Int) - 7).toNat = j by omega]
  show signs9.getD j [] = l
  rw [List.getD_eq_getElem?_getD, h]; rfl
theorem sign_len {j : Nat} {l : List UInt8} (h : signs9[j]? = some l) : l.length ≤ 2 := by
  have h1 := List.mem_of_getElem? h
  revert h1
  have : ∀ x ∈ signs9, x.length ≤ 2 := by decide
  exact fun h1 => this l h1
theorem cat_eq3 (l : List UInt8) : ((⟨#[32]⟩ : ByteArray) ++ (⟨l.toArray⟩ : ByteArray) ++ (⟨#[32]⟩ : ByteArray)) = ⟨([32] ++ l ++ [32]).toArray⟩ := by
  apply ByteArray.ext
  rw [ByteArray.data_append, ByteArray.data_append]
  apply Array.toList_inj.1
  simp
set_option maxRecDepth 100000 in
set_option maxHeartbeats 16000000 in
theorem signed_c9 (S : Nat → Prop) (B b : Nat) (rows : List (List Value)) (fg fo gk ok ck j : Nat) (sg : List UInt8) (w : World) (h : WrAt S B b w rows) (hl : rows.length ≤ 800000) (hj : signs9[j]? = some sg) (hSf : S fg) (hSg : S 3) (hla : LaidW w)
    (c0 : w.cell? ⟨fg, fo, none⟩ = some (.int .i64 ((7 + j : Nat) : Int))) (c6 : w.cell? ⟨fg, fo + 6, none⟩ = some (.slice (some ⟨gk, ok, none⟩) 2 ck)) :
    Calls Tryz.prog 108 #[.pointer (some ⟨b, 0, none⟩), .pointer (some ⟨fg, fo, none⟩)] w (PcPost S B b (rows ++ [rowX gk ok (sideA (levS ((7 + j : Nat) : Int)) : Nat), rowB ([32] ++ sg ++ [32]), rowX gk (ok + 8) (sideB (levS ((7 + j : Nat) : Int)) : Nat)]) w) := by
  have hj14 : j < 14 := (List.getElem?_eq_some_iff.1 hj).1
  have hsl := sign_len hj
  have HLV := Lib.hid (fun W => level_c ((7 + j : Nat) : Int) (by omega) (by omega) W)
  obtain ⟨lv, hlv⟩ : ∃ lv, levS ((7 + j : Nat) : Int) = lv := ⟨_, rfl⟩
  have hlv9 : lv ≤ 9 := by rw [← hlv]; unfold levS; repeat (first | omega | split)
  rw [hlv] at HLV ⊢
  have HSD := Lib.hid (fun W => sides_c lv hlv9 W)
  obtain ⟨sa, hsa⟩ : ∃ x, sideA lv = x := ⟨_, rfl⟩
  obtain ⟨sb, hsb⟩ : ∃ x, sideB lv = x := ⟨_, rfl⟩
  rw [hsa, hsb] at HSD ⊢
  have HEXP := Lib.hid (fun rows a (l : Int) W h h2 => expr_c9 S B b rows a l W h h2)
  have HPUT := Lib.hid (fun rows s W h h2 => put_c9 S B b rows s W h h2)
  have HHS : Hid (∀ k, S k → k < w.heap.size) := Lib.hid (by obtain ⟨v, -, -, -, -, -, -, hh⟩ := h; exact hh)
  have hfgw : fg < w.heap.size := HHS.out _ hSf
  have hgw : 3 < w.heap.size := HHS.out _ hSg
  have cs : w.cell? ⟨3, j, none⟩ = some (.string ⟨sg.toArray⟩) := hla j sg hj
  have HKP : Hid (∀ W', Fr2 (fun k => ¬ S k) w W' → W'.cell? ⟨fg, fo, none⟩ = some (.int .i64 ((7 + j : Nat) : Int)) ∧ W'.cell? ⟨fg, fo + 6, none⟩ = some (.slice (some ⟨gk, ok, none⟩) 2 ck) ∧ W'.cell? ⟨3, j, none⟩ = some (.string ⟨sg.toArray⟩) ∧ fg < W'.heap.size ∧ 3 < W'.heap.size) := Lib.hid (fun W' hf =>
    ⟨by rw [World.cell?_of_block (w := w) (hf.block fg hfgw (fun e => e hSf))]; exact c0, by rw [World.cell?_of_block (w := w) (hf.block fg hfgw (fun e => e hSf))]; exact c6, by rw [World.cell?_of_block (w := w) (hf.block 3 hgw (fun e => e hSg))]; exact cs, Nat.lt_of_lt_of_le hfgw hf.size, Nat.lt_of_lt_of_le hgw hf.size⟩)
  have HW := Lib.hid h; have HL := Lib.hid hl
  have hw7 : IntKind.i64.wrap (((7 + j : Nat) : Int) - 7) = (j : Int) := by rw [IntWalk.i64_in _ (by omega)]; omega
  obtain ⟨op, hop⟩ : ∃ op : Int, ((7 + j : Nat) : Int) = op := ⟨_, rfl⟩
  rw [hop] at hw7 c0 HKP HLV
  have z1 : (0 : Int) ≤ (j : Int) := by omega
  have z2 : (j : Int) < 14 := by omega
  have z3 : decide (j < 14) = true := decide_eq_true hj14
  have z4 : ¬ 9223372036854775807 < 1 + sg.length := by omega
  have z5 : ¬ 9223372036854775807 < 1 + sg.length + 1 := by omega
  have z6 : ¬ 9223372036854775807 < sg.length + 1 := by omega
  have z7 : ¬ 9223372036854775807 < sg.length + 1 + 1 := by omega
  clear h hl hla hSf hSg hfgw hgw hlv hlv9 hsa hsb hj hsl hop
  go_enter Tryz.func108, Tryz.ntmps108
  go_wp2_with fail
  refine (HLV.out w).mono ?_
  rintro e w1 ⟨rfl, hg1⟩
  have HG1 := Lib.hid hg1
  clear hg1
  go_wp2_with fail
  refine (HSD.out w1).mono ?_
  rintro e w2 ⟨rfl, hg2⟩
  have HG2 := Lib.hid (gb_trans HG1.out hg2)
  have HW2 := Lib.hid (HW.out.kept HG2.out)
  have HF2 : Hid (Fr2 (fun k => ¬ S k) w w2) := Lib.hid (Fr2.none HG2.out)
  clear hg2
  obtain ⟨c0, c6, cs, hfw, hgw⟩ := HKP.out _ HF2.out
  go_wp2_with fail
  refine (HEXP.out _ _ _ w2 HW2.out (by have := HL.out; omega)).mono ?_
  rintro e w3 ⟨rfl, hw3, hf3⟩
  have HW3 := Lib.hid hw3; have HF3 := Lib.hid (HF2.out.trans hf3)
  clear hw3 hf3
  obtain ⟨c0, c6, cs, hfw, hgw⟩ := HKP.out _ HF3.out
  go_wp2_with fail
  refine (HPUT.out _ _ w3 HW3.out (by have h := HL.out; simp only [List.length_append, List.length_cons, List.length_nil]; omega)).mono ?_
  rintro e w4 ⟨rfl, hw4, hf4⟩
  rw [cat_eq3] at hw4
  have HW4 := Lib.hid hw4; have HF4 := Lib.hid (HF3.out.trans hf4)
  clear hw4 hf4
  obtain ⟨c0, c6, cs, hfw, hgw⟩ := HKP.out _ HF4.out
  go_wp2_with fail
  refine (HEXP.out _ _ _ w4 HW4.out (by have h := HL.out; simp only [List.length_append, List.length_cons, List.length_nil]; omega)).mono ?_
  rintro e w5 ⟨rfl, hw5, hf5⟩
  have HF5 := Lib.hid (HF4.out.trans hf5)
  have HW5 : Hid (WrAt S B b w5 (rows ++ [rowX gk ok (sa : Nat), rowB ([32] ++ sg ++ [32]), rowX gk (ok + 8) (sb : Nat)])) := Lib.hid (by
    simp only [List.append_assoc, List.cons_append, List.nil_append] at hw5 ⊢
    exact hw5)
  clear hw5 hf5
  go_wp2_with fail
  go_end0
  exact ⟨rfl, HW5.out, HF5.out⟩

def FarK (N : List Nd) (K : Kf) (A : Nat → Prop) : Prop := ∀ (i : Nat) (x : Nd), N[i]? = some x → x.kids ≠ [] → ∀ a, (K i).1 = some a → A a.block
def FarV (w : World) (b : Nat) (l : List Tok) (u : Nat) (N : List Nd) (vn : Value) (A : Nat → Prop) : Prop := ∃ pt ct K, Bld w b pt ct l u vn N K ∧ FarK N K A
theorem FarV.bld {w : World} {b : Nat} {l : List Tok} {u : Nat} {N : List Nd} {vn : Value} {A : Nat → Prop} (h : FarV w b l u N vn A) : BldV w b l u N vn := by
  obtain ⟨pt, ct, K, h, -⟩ := h
  exact ⟨pt, ct, K, h⟩
theorem FarV.kept {w w' : World} {b : Nat} {l : List Tok} {u : Nat} {N : List Nd} {vn : Value} {A : Nat → Prop} (h : FarV w b l u N vn A) (hg : w.grownBy w' none) : FarV w' b l u N vn A := by
  obtain ⟨pt, ct, K, h, hf⟩ := h
  exact ⟨pt, ct, K, h.kept hg, hf⟩
/-- Beside turns of blocks that are far from it; the blocks to be far from may then be others. -/
theorem FarV.keptF {S : Nat → Prop} {w w' : World} {b : Nat} {l : List Tok} {u : Nat} {N : List Nd} {vn : Value} {A A' : Nat → Prop} (h : FarV w b l u N vn A) (hf : Fr2 S w w') (hS : ∀ k, k ≤ b → ¬ S k) (hv : ∀ k, vn.ownBlock = some k → ¬ S k) (hA : ∀ k, A k → ¬ S k) (hA' : ∀ k, k < w.heap.size → A k → A' k) : FarV w' b l u N vn A' := by
  obtain ⟨pt, ct, K, h, hk⟩ := h
  exact ⟨pt, ct, K, h.keptF hf hS hv fun i x hx hn a ha => hA _ (hk i x hx hn a ha), fun i x hx hn a ha => hA' _ (h.khi i x hx hn a ha).2.1 (hk i x hx hn a ha)⟩

def AddFar (w : World) (b : Nat) (l : List Tok) (u : Nat) (N : List Nd) (x : Nd) (vn : Value) (A : Nat → Prop) (e : Ending) (w' : World) : Prop :=
  e = .returned (.int .i64 (N.length : Int)) ∧ ∃ vn', FarV w' b l u (N ++ [x]) vn' A ∧ Fr2 (Turn b vn) w w' ∧ ∀ k, vn'.ownBlock = some k → vn.ownBlock = some k ∨ w.heap.size ≤ k

theorem AddFar.after {w w1 : World} {b : Nat} {l : List Tok} {u : Nat} {N : List Nd} {x : Nd} {vn : Value} {A : Nat → Prop} {e : Ending} {w' : World} (h : AddFar w1 b l u N x vn A e w') (hf : Fr2 (Turn b vn) w w1) : AddFar w b l u N x vn A e w' := by
  obtain ⟨he, vn', h1, h2, h3⟩ := h
  exact ⟨he, vn', h1, hf.trans h2, fun k hk => (h3 k hk).imp id fun h => Nat.le_trans hf.size h⟩

/-- A node more. -/
theorem Bld.addF {A : Nat → Prop} {w w5 : World} {b : Nat} {pt : Option Addr} {ct : Nat} {l : List Tok} {u u' : Nat} {vn : Value} {N : List Nd} {K : Kf} (h : Bld w b pt ct l u vn N K) (hf : Fr2 (Turn b vn) w w5) {g9 n9 cap9 : Nat} (hbox : w5.heap[b]? = some (.cells #[.slice pt l.length ct, .int .i64 (u' : Int), .slice (some ⟨g9, 0, none⟩) n9 cap9] 151 (0, 0)))
    {x : Nd} {p : Option Addr} {c : Nat} (hown : OwnG 3 134 w5 (b + 1) (.slice (some ⟨g9, 0, none⟩) n9 cap9) (ndsV K N ++ [[.int .i64 x.kind, .int .i64 x.tok, .slice p x.kids.length c]])) (hk : VAt w p (intsV x.kids)) (hkb : x.kids ≠ [] → ∀ a, p = some a → b < a.block ∧ vn.ownBlock ≠ some a.block)
    (hl9 : vn.ownBlock = some g9 ∨ w.heap.size ≤ g9) (hFK : FarK N K A) (hpA : x.kids ≠ [] → ∀ a, p = some a → A a.block) : FarV w5 b l u' (N ++ [x]) (.slice (some ⟨g9, 0, none⟩) n9 cap9) A := by
  obtain ⟨K', hK1, hK2⟩ := kf_snoc K N.length p c
  have hkn : ∀ (i : Nat) (y : Nd), (N ++ [x])[i]? = some y → (i < N.length ∧ N[i]? = some y ∧ K' i = K i) ∨ (i = N.length ∧ y = x ∧ K' i = (p, c)) := fun i y hy => by
    by_cases hi : i < N.length
    · rw [List.getElem?_append_left hi] at hy; exact .inl ⟨hi, hy, hK2 i (by omega)⟩
    · have h1 := (List.getElem?_eq_some_iff.1 hy).1
      rw [List.length_append, List.length_singleton] at h1
      obtain rfl : i = N.length := by omega
      rw [List.getElem?_append_right (Nat.le_refl _)] at hy
      simp at hy
      exact .inr ⟨rfl, hy.symm, hK1⟩
  refine ⟨pt, ct, K', ⟨hbox, h.cap, h.toks.keptF hf (fun h0 a ha => ?_), h.tlow, by rw [ndsV_snoc hK1 hK2]; exact hown, fun i y hy => ?_, fun i y hy hn a ha => ?_⟩, fun i y hy hn a ha => ?_⟩
  · have h1 := h.tlow h0 a ha
    rintro (e | e)
    · omega
    · have := (h.turn _ e).1; omega
  · rcases hkn i y hy with ⟨-, hy, e⟩ | ⟨-, rfl, e⟩
    · rw [e]
      refine (h.kids i y hy).keptF hf fun h0 a ha => ?_
      obtain ⟨h1, h2, h3⟩ := h.khi i y hy (intsV_ne h0) a ha
      rintro (e | e)
      · omega
      · exact h3 e
    · rw [e]
      refine hk.keptF hf fun h0 a ha => ?_
      obtain ⟨h1, h3⟩ := hkb (intsV_ne h0) a ha
      rintro (e | e)
      · omega
      · exact h3 e
  · have hx9 : ∀ k, (Value.slice (some ⟨g9, 0, none⟩) n9 cap9).ownBlock = some k → g9 = k := fun k e => by simpa [Value.ownBlock] using e
    rcases hkn i y hy with ⟨-, hy, e⟩ | ⟨-, rfl, e⟩
    · rw [e] at ha
      obtain ⟨h1, h2, h3⟩ := h.khi i y hy hn a ha
      refine ⟨h1, Nat.lt_of_lt_of_le h2 hf.size, fun e9 => ?_⟩
      have := hx9 _ e9
      subst this
      rcases hl9 with h | h
      · exact h3 h
      · omega
    · rw [e] at ha
      obtain ⟨h1, h3⟩ := hkb hn a ha
      have h2 := hk.lt (ne_intsV hn) a ha
      refine ⟨h1, Nat.lt_of_lt_of_le h2 hf.size, fun e9 => ?_⟩
      have := hx9 _ e9
      subst this
      rcases hl9 with h | h
      · exact h3 h
      · omega
  · rcases hkn i y hy with ⟨-, hy, e⟩ | ⟨-, rfl, e⟩
    · rw [e] at ha; exact hFK i y hy hn a ha
    · rw [e] at ha; exact hpA hn a ha

set_option maxRecDepth 100000 in
set_option maxHeartbeats 8000000 in
theorem add_far (A : Nat → Prop) (b : Nat) (l : List Tok) (u : Nat) (N : List Nd) (vn : Value) (x : Nd) (p : Option Addr) (c : Nat) (w : World) (hN : N.length ≤ 100000) (h : FarV w b l u N vn A) (hk : VAt w p (intsV x.kids)) (hkb : x.kids ≠ [] → ∀ a, p = some a → b < a.block ∧ vn.ownBlock ≠ some a.block) (hpA : x.kids ≠ [] → ∀ a, p = some a → A a.block) :
    Calls Tryz.prog 86 #[.pointer (some ⟨b, 0, none⟩), .agg #[.int .i64 x.kind, .int .i64 x.tok, .slice p x.kids.length c]] w (AddFar w b l u N x vn A) := by
  obtain ⟨pt, ct, K, h, hFK⟩ := h
  have HFK := Lib.hid hFK; have HPA := Lib.hid hpA; have H := Lib.hid h; have HK := Lib.hid hk; have HKB := Lib.hid hkb
  obtain ⟨pv, cv, e1, -, hcv, -⟩ := h.own.is
  rw [nds_len] at e1 hcv
  subst e1
  obtain ⟨B, hB⟩ : ∃ B, w.heap.size = B := ⟨_, rfl⟩
  have HBW := Lib.hid hB
  have hbB : b < B := by rw [← hB]; exact hlt' h.box
  have HOWN := Lib.hid h.own
  have HLE : Hid ((ndsV K N).length ≤ 1000000) := Lib.hid (by rw [nds_len]; omega)
  have HNL : Hid ((ndsV K N).length = N.length) := Lib.hid (nds_len K N)
  obtain ⟨m, hm⟩ : ∃ m, l.length = m := ⟨_, rfl⟩
  obtain ⟨M, hM⟩ : ∃ M, N.length = M := ⟨_, rfl⟩
  have HML := Lib.hid hM
  have HLL := Lib.hid hm
  obtain ⟨kl, hkl⟩ : ∃ kl, x.kids.length = kl := ⟨_, rfl⟩
  have HKL := Lib.hid hkl
  rw [hM] at HOWN
  obtain ⟨xk, hxk⟩ : ∃ xk, x.kind = xk := ⟨_, rfl⟩
  obtain ⟨xt, hxt⟩ : ∃ xt, x.tok = xt := ⟨_, rfl⟩
  have HXK := Lib.hid hxk; have HXT := Lib.hid hxt
  have hbox := h.box
  rw [hm, hM] at hbox
  rw [hxk, hxt, hkl]
  have hA := heap_alloc_new w (.cells #[.int .i64 xk, .int .i64 xt, .slice p kl c] 134)
  have hgA := World.grownBy_alloc w (.cells #[.int .i64 xk, .int .i64 xt, .slice p kl c] 134) none
  have hsA : (w.alloc (.cells #[.int .i64 xk, .int .i64 xt, .slice p kl c] 134)).heap.size = B + 1 := by simp [hB]
  obtain ⟨d0, d1, d2, d3⟩ := cells3' (bx hgA hbox)
  have HBX := Lib.hid hbox
  rw [hB] at hA
  obtain ⟨a0, a1, a2, a3⟩ := cells3' hA
  clear hFK hpA hbox hm hM hkl hxk hxt h hk hkb hcv
  go_enter Tryz.func86, Tryz.ntmps86
  go_wp2_with fail
  try rw [hB]
  generalize (w.alloc (.cells #[.int .i64 xk, .int .i64 xt, .slice p kl c] 134)) = W at *
  have HOW := Lib.hid (OwnG.kept HOWN.out hgA)
  have HGA := Lib.hid hgA
  have hnew := heap_alloc_new W (.cells #[.int .i64 xk, .int .i64 xt, .slice p kl c] 134)
  rw [hsA] at hnew
  have HNEW := Lib.hid hnew
  have HBX2 := Lib.hid (bx (World.grownBy_alloc W (.cells #[.int .i64 xk, .int .i64 xt, .slice p kl c] 134) none) (bx hgA HBX.out))
  have hoa : ∀ k, (Value.slice pv M cv).ownBlock = some k → b + 1 ≤ k ∧ k < B + 1 := fun k e => by
    obtain ⟨h1, h2⟩ := OwnG.at HOW.out k e
    omega
  have HOA := Lib.hid hoa
  clear hA hgA hB hnew hoa
  go_region_law (refine step_appGl (s := 3) (t := 57) (T := 134) (by decide) Tryz.underlying57 infoTN rfl (by omega) rfl _ _ rfl (b + 1) (ndsV K N) [.int .i64 xk, .int .i64 xt, .slice p kl c] rfl (fun u hu => by simp at hu; rcases hu with rfl | rfl | rfl <;> rfl) (.slice pv M cv) rfl (OwnG.kept HOW.out (by repeat (first | with_reducible exact gb_refl _ _ | with_reducible refine gb_drew ?_ | with_reducible refine gb_alloc ?_ _))) (B + 1) _ rfl (by exact HNEW.out) rfl HLE.out (by simp; omega) (B + 2) (by simp; omega) ?_; intro g9 cap9 w9 hO9 hg9 hl9; have hb9 := (hg9.block b (by simp; omega) (fun e => by have := (HOA.out b e.symm).1; omega)).trans HBX2.out; obtain ⟨f0, f1, f2, f3⟩ := cells3' hb9; have HB9 := Lib.hid hb9; have HO9 := Lib.hid hO9; have HG9 := Lib.hid hg9; have HL9 := Lib.hid hl9; clear hO9 hg9 hl9 hb9)
  all_goals
    rw [HNL.out, HML.out] at HO9 ⊢
    have HF9 : Hid (Fr2 (Turn b (.slice pv M cv)) w w9) := Lib.hid (Fr2.trans (b := (W.alloc (.cells #[.int .i64 xk, .int .i64 xt, .slice p kl c] 134)).drew) (Fr2.none (gb_trans HGA.out (gb_drew (gb_alloc (gb_refl _ _) _)))) (Fr2.of (S := Turn b (.slice pv M cv)) HG9.out (fun k e => Or.inr e)))
    have HF10 := Lib.hid (HF9.out.setCell (g := b) (j := 2) (.inl rfl) (.slice (some ⟨g9, 0, none⟩) (M + 1) cap9))
    have HB10 := Lib.hid (show (w9.setCell ⟨b, 2, none⟩ (.slice (some ⟨g9, 0, none⟩) (M + 1) cap9)).heap[b]? = some (.cells #[.slice pt m ct, .int .i64 (u : Int), .slice (some ⟨g9, 0, none⟩) (M + 1) cap9] 151 (0, 0)) from set_cells (i := 2) HB9.out)
    have HO10 := Lib.hid (OwnG.keptF HO9.out (Fr2.setCell (S := fun k => k = b) (Fr2.refl _ w9) (g := b) (j := 2) rfl (.slice (some ⟨g9, 0, none⟩) (M + 1) cap9)) (fun k e => by have := (OwnG.at HO9.out k e).1; omega))
    obtain ⟨W5, hW5⟩ : ∃ W5, (w9.setCell ⟨b, 2, none⟩ (.slice (some ⟨g9, 0, none⟩) (M + 1) cap9)) = W5 := ⟨_, rfl⟩
    rw [hW5] at HF10 HB10 HO10 ⊢
    clear HF9 HB9 HO9 hW5 d0 d1 d2 d3 f0 f1 f2 f3 a0 a1 a2 a3 HG9
    obtain ⟨f0, f1, f2, f3⟩ := cells3' HB10.out
    have hw1 : IntKind.i64.wrap (M : Int) = (M : Int) := IntWalk.i64_in _ (by have := HML.out; omega)
    have hw2 : IntKind.i64.wrap (((M + 1 : Nat) : Int) - 1) = (M : Int) := by rw [show (((M + 1 : Nat) : Int) - 1) = (M : Int) by omega]; exact hw1
    go_wp2_with fail
    go_ret
    refine ⟨by rw [HML.out]; rfl, _, Bld.addF H.out (by rw [HML.out]; exact HF10.out) (by rw [HLL.out]; exact HB10.out) (by rw [HXK.out, HXT.out, HKL.out]; exact HO10.out) HK.out HKB.out (by rw [HML.out, HBW.out]; exact HL9.out.imp id (fun h => by omega)) HFK.out HPA.out, by rw [HML.out]; exact HF10.out, fun k e => ?_⟩
    have h1 : g9 = k := by simpa [Value.ownBlock] using e
    subst h1
    rw [HML.out, HBW.out]
    exact HL9.out.imp id (fun h => by omega)
set_option maxRecDepth 100000 in
set_option maxHeartbeats 8000000 in
theorem Leaf_far (A : Nat → Prop) (b : Nat) (l : List Tok) (u : Nat) (N : List Nd) (vn : Value) (w : World) (hl : l.length ≤ 100000) (hu : u < l.length) (hN : N.length ≤ 100000) (h : FarV w b l u N vn A) :
    Calls Tryz.prog 127 #[.pointer (some ⟨b, 0, none⟩)] w (AddFar w b l (u + 1) N ⟨19, (u : Int), []⟩ vn A) := by
  obtain ⟨pt, ct, K, h, hFK⟩ := h
  have hbox := h.box
  have HADD := Lib.hid (fun W (h : FarV W b l (u + 1) N vn A) => add_far A b l (u + 1) N vn ⟨19, (u : Int), []⟩ none 0 W hN h (.inl rfl) (fun h => absurd rfl h) (fun h => absurd rfl h))
  obtain ⟨pv, cv, e1, -, -, -⟩ := h.own.is
  have HH := Lib.hid h
  obtain ⟨m, hm⟩ : ∃ m, l.length = m := ⟨_, rfl⟩
  rw [hm] at hbox hu hl
  have HP : Hid (∀ W e w', Fr2 (Turn b vn) w W → AddFar W b l (u + 1) N ⟨19, (u : Int), []⟩ vn A e w' → AddFar w b l (u + 1) N ⟨19, (u : Int), []⟩ vn A e w') := Lib.hid (fun _ _ _ h1 h2 => h2.after h1)
  have HF : Hid (∀ W, w.grownBy W none → Fr2 (Turn b vn) w (W.setCell ⟨b, 1, none⟩ (.int .i64 ((u + 1 : Nat) : Int))) ∧ FarV (W.setCell ⟨b, 1, none⟩ (.int .i64 ((u + 1 : Nat) : Int))) b l (u + 1) N vn A) := Lib.hid (fun W hg => ⟨(Fr2.none hg).setCell (g := b) (j := 1) (.inl rfl) _, pt, ct, K, (HH.out.kept hg).setUsed (u + 1), hFK⟩)
  obtain ⟨d0, d1, d2, d3⟩ := cells3' hbox
  have e1 : ((u : Int) == (m : Int)) = false := beq_eq_false_iff_ne.2 (by omega)
  have e2 : (u == m) = false := beq_eq_false_iff_ne.2 (by omega)
  have hw1 : IntKind.i64.wrap ((u : Int) + 1) = ((u + 1 : Nat) : Int) := by rw [IntWalk.i64_in _ (by omega)]; omega
  have hw2 : IntKind.i64.wrap (((u + 1 : Nat) : Int) - 1) = (u : Int) := by rw [IntWalk.i64_in _ (by omega)]; omega
  generalize AddFar w b l (u + 1) N ⟨19, (u : Int), []⟩ vn A = Q at HP
  obtain ⟨u1, hu1⟩ : ∃ u1, u + 1 = u1 := ⟨_, rfl⟩
  rw [hu1] at hw1 hw2 HF HADD HP
  clear hbox hm h hu1
  go_enter Tryz.func127, Tryz.ntmps127
  go_wp2_with fail
  go_quiet (fail)
  go_wp2_with fail
  obtain ⟨hf1, hb1⟩ := HF.out (w.drewN nq) (gb_drewN (gb_refl _ _) _)
  refine (HADD.out _ hb1).mono ?_
  rintro e w' hp
  have HP1 := Lib.hid (HP.out _ _ _ hf1 hp)
  obtain rfl := hp.1
  clear hp hf1 hb1 HP HF HADD
  go_wp2_with fail
  exact HP1.out

set_option maxRecDepth 100000 in
set_option maxHeartbeats 8000000 in
theorem Node_far (A : Nat → Prop) (b : Nat) (l : List Tok) (u : Nat) (N : List Nd) (vn : Value) (kind : Int) (kids : List Int) (q : Option Addr) (c : Nat) (w : World) (hN : N.length ≤ 100000) (hk : kids.length ≤ 100000) (h : FarV w b l u N vn A) (hA : ∀ k, w.heap.size ≤ k → A k) (hq : VAt w q (intsV kids)) (hok : okB N.length kids = true) :
    Calls Tryz.prog 58 #[.pointer (some ⟨b, 0, none⟩), .int .i64 kind, .slice q kids.length c] w (AddFar w b l u N ⟨kind, -1, kids⟩ vn A) := by
  obtain ⟨pt, ct, K, h, hFK⟩ := h
  have hbox := h.box
  have HH := Lib.hid h
  have HFK := Lib.hid hFK; have HFA := Lib.hid hA
  have HADD := Lib.hid (fun W p' c' (h : FarV W b l u N vn A) h1 h2 h3 => add_far A b l u N vn ⟨kind, -1, kids⟩ p' c' W hN h h1 h2 h3)
  have HE := Lib.hid (eachBelow_c N.length kids q c w (by omega) (by omega) hq)
  rw [hok] at HE
  have HON := Lib.hid (fun W h => ownNode_c kind (-1) kids q c W hk h)
  have HQ := Lib.hid hq
  have HTN := Lib.hid h.turn
  have hbl := hlt' h.box
  have HBL := Lib.hid hbl
  have HP : Hid (∀ W e w', Fr2 (Turn b vn) w W → AddFar W b l u N ⟨kind, -1, kids⟩ vn A e w' → AddFar w b l u N ⟨kind, -1, kids⟩ vn A e w') := Lib.hid (fun _ _ _ h1 h2 => h2.after h1)
  obtain ⟨pv, cv, e1, -, -, -⟩ := h.own.is
  rw [nds_len] at e1
  obtain ⟨m, hm⟩ : ∃ m, l.length = m := ⟨_, rfl⟩
  obtain ⟨M, hM⟩ : ∃ M, N.length = M := ⟨_, rfl⟩
  obtain ⟨kl, hkl⟩ : ∃ kl, kids.length = kl := ⟨_, rfl⟩
  have HM := Lib.hid hM; have HKL := Lib.hid hkl
  rw [hM] at e1
  rw [hm, e1] at hbox
  rw [hM, hkl] at HE
  rw [hkl] at HON
  rw [hkl]
  generalize AddFar w b l u N ⟨kind, -1, kids⟩ vn A = Q at HP
  obtain ⟨d0, d1, d2, d3⟩ := cells3' hbox
  clear hFK hA hbox hm h hM hkl hok hq hk hN e1 hbl
  go_enter Tryz.func58, Tryz.ntmps58
  go_wp2_with fail
  refine HE.out.mono ?_
  rintro e w1 ⟨rfl, hg⟩
  have HG := Lib.hid hg
  clear hg HE
  go_wp2_with fail
  refine (HON.out _ (HQ.out.kept HG.out)).mono ?_
  rintro e w2 ⟨hg2, p2, c2, rfl, hv2, -, hb2⟩
  have HG2 := Lib.hid (gb_trans HG.out hg2)
  have HV2 := Lib.hid hv2
  have HB2 := Lib.hid hb2
  have hgs := HG.out.size
  have HGS := Lib.hid hgs
  rw [HKL.out]
  clear hg2 hv2 hb2 hgs HON
  go_wp2_with fail
  have HA := Lib.hid (HADD.out w2 p2 c2 ⟨pt, ct, K, HH.out.kept HG2.out, HFK.out⟩ HV2.out (fun hne a ha => by
    obtain ⟨h1, -⟩ := HB2.out hne a ha
    have h2 := HGS.out
    have h3 := HBL.out
    refine ⟨by omega, fun e => ?_⟩
    have := (HTN.out _ e).2
    omega) (fun hne a ha => HFA.out _ (by
    have h1 := (HB2.out hne a ha).1
    have h2 := HGS.out
    omega)))
  rw [HKL.out] at HA
  refine HA.out.mono ?_
  rintro e w' hp
  have HP1 := Lib.hid (HP.out _ _ _ (Fr2.none HG2.out) hp)
  obtain rfl := hp.1
  clear hp HP HADD HA
  go_wp2_with fail
  exact HP1.out
end Go.Proofs.YtccokidhngdjnaaGreatDoor
