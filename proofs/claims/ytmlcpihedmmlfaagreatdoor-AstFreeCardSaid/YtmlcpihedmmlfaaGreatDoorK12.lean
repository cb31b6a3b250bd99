/- Reading numbers. -/
import Derived.Test.YtmlcpihedmmlfaaGreatDoorK11
import Derived.Test.YtmlcpihedmmlfaaGreatDoorK1
import Derived.Test.YtmlcpihedmmlfaaGreatDoorK6
import Derived.Test.YtmlcpihedmmlfaaGreatDoorK10
set_option linter.unusedVariables false
set_option linter.unusedSimpArgs false
namespace Go.Proofs.YtmlcpihedmmlfaaGreatDoor.Zd
open Go.RowKit Mx

def minus (l : List UInt8) : Bool := Lib.hasPrefix l [45]
def digs (l : List UInt8) : List UInt8 := Lib.trimPrefix l [45]
/-- The number that digits tell. -/
def valL (l : List UInt8) : Nat := l.foldl (fun a b => 10 * a + (b.toNat - 48)) 0
def parseE (l : List UInt8) : Int := if 60 < (digs l).length then 11 else if plain (digs l) = false ∨ (minus l = true ∧ digs l = [48]) then 10 else 0
def parseV (l : List UInt8) : Int := if parseE l = 0 then sgn (minus l) (valL (digs l)) else 0

def ParsePost (l : List UInt8) (w : World) (e : Ending) (w' : World) : Prop := ∃ x, e = .returned (.tuple #[x, .int .i64 (parseE l)]) ∧ IsInt w' x (parseV l) ∧ w.grownBy w' none ∧ ∀ s p n c, x = .agg #[.bool s, .slice p n c] → 0 < n → ∃ a, p = some a ∧ w.heap.size ≤ a.block

theorem plain_dig {l : List UInt8} (h : plain l = true) (j : Nat) (hj : j < l.length) : 48 ≤ l[j].toNat ∧ l[j].toNat ≤ 57 := by
  unfold plain at h
  rw [Bool.and_eq_true, List.all_eq_true] at h
  exact of_decide_eq_true (h.1 _ (List.getElem_mem hj))

theorem valL_take {l : List UInt8} {k : Nat} (hk : k < l.length) : valL (l.take (k + 1)) = 10 * valL (l.take k) + (l[k].toNat - 48) := by
  rw [List.take_add_one, List.getElem?_eq_getElem hk]
  unfold valL
  rw [List.foldl_append]; rfl

theorem cut_c (s : ByteArray) (w : World) : Calls Tryz.prog 145 #[.string s, .string ⟨#[45]⟩] w fun e w' => e = .returned (.tuple #[.string ⟨(digs s.data.toList).toArray⟩, .bool (minus s.data.toList)]) ∧ w' = w :=
  Tryz.strings_CutPrefix s ⟨#[45]⟩ w

theorem zero_int (w : World) : IsInt w (.agg #[.bool false, .slice none 0 0]) 0 :=
  ⟨false, _, 0, rfl, ⟨none, 0, 0, fun _ => 0, rfl, Nat.le_refl _, by omega, .inl rfl, fun j h => by omega, .inl rfl, rfl⟩, by simp, rfl⟩

theorem bad_parse {l : List UInt8} {w : World} {E : Int} (hE : parseE l = E) (h : E ≠ 0) : ParsePost l w (.returned (.tuple #[.agg #[.bool false, .slice none 0 0], .int .i64 E])) (w.alloc (.cells #[.bool false, .slice none 0 0] 58)) :=
  ⟨_, by rw [hE], by unfold parseV; rw [hE, if_neg h]; exact zero_int _, gb_alloc (gb_refl w none) _, fun s p n c h h0 => by simp at h; omega⟩

theorem int_some {w : World} {s : Bool} {p : Option Addr} {n c : Nat} {Z : Int} (h : IsInt w (.agg #[.bool s, .slice p n c]) Z) (hn : 0 < n) : ∃ a, p = some a ∧ a.block < w.heap.size := by
  obtain ⟨s', v, N, he, ⟨p', n', c', f, rfl, _, _, hat, _⟩, _⟩ := h
  simp at he
  obtain ⟨rfl, rfl, rfl, rfl⟩ := he
  rcases hat with h | ⟨g, off, rfl, hg, _⟩
  · omega
  · exact ⟨_, rfl, hg⟩

def SgnPost (p : Option Addr) (Z : Int) (w : World) (e : Ending) (w' : World) : Prop := ∃ s3 p3 n3 c3, e = .returned (.agg #[.bool s3, .slice p3 n3 c3]) ∧ IsInt w' (.agg #[.bool s3, .slice p3 n3 c3]) Z ∧ w.grownBy w' none ∧ (0 < n3 → p3 = p)

theorem sgn_fin {b s : Bool} {p p' : Option Addr} {m cap' : Nat} {Z : Int} {w w' : World} (h : IntPost Z w (.returned (.agg #[.bool (s && b), .slice p' m cap'])) w') (q7 : 0 < m → p' = p) : SgnPost p Z w (.returned (.agg #[.bool (s && b), .slice p' m cap'])) w' := by
  obtain ⟨x, e, h1, h2⟩ := h
  injection e with e
  subst e
  exact ⟨_, _, _, _, rfl, h1, h2, q7⟩

set_option maxHeartbeats 1000000 in
theorem signed_p (s : Bool) (p : Option Addr) (n cap : Nat) (f : Nat → Nat) (w : World) (hn : n ≤ cap) (hc : cap ≤ maxLen) (h : At .u64 w p n f) (hf : ∀ j, j < n → f j < Bw) :
    Calls Tryz.prog 148 #[.bool s, .slice p n cap] w (SgnPost p (sgn s (V Bw f 0 n)) w) := by
  have HT := Lib.hid (fun w1 (hg : w.grownBy w1 none) => trim_c p n cap f w1 hn hc (h.grown hg (by simp)))
  have HH := Lib.hid h; have HF := Lib.hid hf
  clear h hf
  cases s
  · go_enter Tryz.func148, Tryz.ntmps148
    go_wp2_with (go_at_call 158; refine (HT.out _ ?_).mono ?_; (exact World.grownBy_alloc w _ none); rintro e w1 ⟨m, p', cap', rfl, q1, q2, q3, q4, q5, q6, q7, rfl⟩; have Q4 := Lib.hid q4; have Q5 := Lib.hid q5; have Q7 := Lib.hid q7; clear q4 q5 q6 q7)
    have hfin := sgn_fin (signed_fin (s := false) q1 q2 (Nat.le_trans q3 hc) HH.out HF.out Q4.out Q5.out Q7.out) Q7.out
    have HFIN := Lib.hid hfin
    clear hfin
    exact bodyPost_ret (v := .agg #[.bool (false && decide (0 < m)), .slice p' m cap']) (by simp [results, Tryz.results148, go_sem]) rfl HFIN.out
  · go_enter Tryz.func148, Tryz.ntmps148
    go_wp2_with (go_at_call 158; refine (HT.out _ ?_).mono ?_; (exact World.grownBy_alloc w _ none); rintro e w1 ⟨m, p', cap', rfl, q1, q2, q3, q4, q5, q6, q7, rfl⟩; have Q4 := Lib.hid q4; have Q5 := Lib.hid q5; have Q7 := Lib.hid q7; clear q4 q5 q6 q7)
    have hfin := sgn_fin (signed_fin (s := true) q1 q2 (Nat.le_trans q3 hc) HH.out HF.out Q4.out Q5.out Q7.out) Q7.out
    have HFIN := Lib.hid hfin
    clear hfin
    exact bodyPost_ret (v := .agg #[.bool (true && decide (0 < m)), .slice p' m cap']) (by simp [results, Tryz.results148, go_sem]) rfl HFIN.out

/-- What lies behind the rounds. -/
def PRel (l : List UInt8) (w : World) (k : Nat) (v : Value) (wr : World) : Prop :=
  ∃ (mm : Nat) (f : Nat → Nat), mm ≤ k ∧ Own .u64 199 wr (w.heap.size + 1) v mm f ∧ (∀ j, j < mm → f j < Bw) ∧ V Bw f 0 mm = valL (l.take k) ∧ Below (w.heap.size + 1) (w.alloc (.cells #[.bool false, .slice none 0 0] 58)) wr

set_option maxHeartbeats 2000000 in
theorem Parse_c (s : ByteArray) (w : World) : Calls Tryz.prog 115 #[.string s] w (ParsePost s.data.toList w) := by
  obtain ⟨d, hd⟩ : ∃ d : ByteArray, d = ⟨(digs s.data.toList).toArray⟩ := ⟨_, rfl⟩
  have hdl : d.data.toList = digs s.data.toList := by rw [hd]
  have hds : d.size = (digs s.data.toList).length := by rw [← hdl]; exact (Array.length_toList).symm
  obtain ⟨m, hm⟩ : ∃ m, minus s.data.toList = m := ⟨_, rfl⟩
  obtain ⟨n, hn⟩ : ∃ n, (digs s.data.toList).length = n := ⟨_, rfl⟩
  rw [hn] at hds
  have HD := Lib.hid hdl; have HM := Lib.hid hm; have HNN := Lib.hid hn
  have hcut : ∀ w, Calls Tryz.prog 145 #[.string s, .string ⟨#[45]⟩] w fun e w' => e = .returned (.tuple #[.string d, .bool m]) ∧ w' = w := by
    intro w; rw [hd, ← hm]; exact cut_c s w
  have HCUT := Lib.hid hcut
  clear hcut hd hdl hm hn
  by_cases h60 : 60 < n
  · have d1 : decide ((60 : Int) < n) = true := decide_eq_true (by omega)
    have hE : parseE s.data.toList = 11 := by unfold parseE; rw [HNN.out, if_pos h60]
    have HE := Lib.hid hE
    clear hE
    go_enter Tryz.func115, Tryz.ntmps115
    go_wp2_with (go_at_call 145; refine (HCUT.out _).mono ?_; rintro e w1 ⟨rfl, rfl⟩)
    exact bodyPost_ret (v := .tuple #[.agg #[.bool false, .slice none 0 0], .int .i64 11]) (by simp [results, Tryz.results115, go_sem]) rfl (bad_parse HE.out (by decide))
  · have d1 : decide ((60 : Int) < n) = false := decide_eq_false (by omega)
    obtain ⟨pb, hpb⟩ : ∃ pb, plain (digs s.data.toList) = pb := ⟨_, rfl⟩
    have HPB := Lib.hid hpb
    have hpl : ∀ w, Calls Tryz.prog 146 #[.string d] w (fun e w' => e = .returned (.bool pb) ∧ w' = w) := by
      intro w
      have := plain_c d w (by rw [HD.out, HNN.out]; omega)
      rwa [HD.out, hpb] at this
    have HPL := Lib.hid hpl
    have hE : parseE s.data.toList = if pb = false ∨ (m = true ∧ digs s.data.toList = [48]) then 10 else 0 := by unfold parseE; rw [HNN.out, if_neg h60, hpb, HM.out]
    have HE := Lib.hid hE
    clear hE hpl hpb
    cases pb
    · have hE : parseE s.data.toList = 10 := by rw [HE.out, if_pos (.inl rfl)]
      have HE := Lib.hid hE
      clear hE
      go_enter Tryz.func115, Tryz.ntmps115
      go_wp2_with (first
        | (go_at_call 145; refine (HCUT.out _).mono ?_; rintro e w1 ⟨rfl, rfl⟩)
        | (go_at_call 146; refine (HPL.out _).mono ?_; rintro e w1 ⟨rfl, rfl⟩))
      exact bodyPost_ret (v := .tuple #[.agg #[.bool false, .slice none 0 0], .int .i64 10]) (by simp [results, Tryz.results115, go_sem]) rfl (bad_parse HE.out (by decide))
    · by_cases h0 : m = true ∧ digs s.data.toList = [48]
      · obtain ⟨h01, h0⟩ := h0
        have hE : parseE s.data.toList = 10 := by rw [HE.out, if_pos (.inr ⟨h01, h0⟩)]
        subst h01
        have HE2 := Lib.hid hE
        have c1 : (d.toList == [48]) = true := by rw [toList_data, HD.out, h0]; rfl
        clear hE h0 HE
        go_enter Tryz.func115, Tryz.ntmps115
        go_wp2_with (first
          | (go_at_call 145; refine (HCUT.out _).mono ?_; rintro e w1 ⟨rfl, rfl⟩)
          | (go_at_call 146; refine (HPL.out _).mono ?_; rintro e w1 ⟨rfl, rfl⟩))
        exact bodyPost_ret (v := .tuple #[.agg #[.bool false, .slice none 0 0], .int .i64 10]) (by simp [results, Tryz.results115, go_sem]) rfl (bad_parse HE2.out (by decide))
      · have hE : parseE s.data.toList = 0 := by rw [HE.out, if_neg (by rintro (h | h); · cases h
                                                                        · exact h0 h)]
        have HE2 := Lib.hid hE
        have hp1 : plain (digs s.data.toList) = true := HPB.out
        have hdig := plain_dig hp1
        have HDIG := Lib.hid hdig
        have hstart : PRel (digs s.data.toList) w 0 (.slice none 0 0) (w.alloc (.cells #[.bool false, .slice none 0 0] 58)) :=
          ⟨0, fun _ => 0, Nat.le_refl _, ⟨rfl, .inl ⟨rfl, rfl⟩⟩, fun j h => by omega, by simp [V, valL], Below.refl _ _⟩
        have HST := Lib.hid hstart
        clear hE HE hp1 hdig hstart
        cases m
        · clear h0
          go_enter Tryz.func115, Tryz.ntmps115
          go_wp2_with (first
            | (go_at_call 145; refine (HCUT.out _).mono ?_; rintro e w1 ⟨rfl, rfl⟩)
            | (go_at_call 146; refine (HPL.out _).mono ?_; rintro e w1 ⟨rfl, rfl⟩))
          go_loopw [6, 30] (fun v i wr => ∃ k : Nat, k ≤ n ∧ i = .int .i64 k ∧ Hid (PRel (digs s.data.toList) w k v wr)) (fun _ i _ => n - (intOf i).toNat)
          case atStart => exact ⟨0, by omega, rfl, HST⟩
          case round =>
            clear HST
            obtain ⟨k, hk, rfl, HR⟩ := hrel
            by_cases hlt : k < n
            · obtain ⟨mm, f, h1, h2, h3, h4, h5⟩ := HR.out
              have hkl : k < (digs s.data.toList).length := by rw [HNN.out]; exact hlt
              obtain ⟨b, hbv⟩ : ∃ b : Nat, ((digs s.data.toList)[k]'hkl).toNat = b := ⟨_, rfl⟩
              have hix := idx_run d k b (by rw [HD.out]; exact hkl) (by rw [← hbv]; simp only [HD.out])
              have hb := HDIG.out k hkl
              rw [hbv] at hb
              have hv := valL_take hkl
              rw [hbv, ← h4] at hv
              have hsz := h5.size
              have HTP := Lib.hid (timesPlus_c (w.heap.size + 1) u6 mm 10 (b - 48) f wr h2 h3 (by unfold Bw; omega) (by unfold Bw; omega) (by omega) (by simpa using hsz))
              have HV := Lib.hid hv; have HB := Lib.hid h5
              have hb8 : IntKind.u8.wrap ((b : Int) - 48) = ((b - 48 : Nat) : Int) := by rw [IntKind.wrap_u8]; omega
              clear h2 h3 h4 h5 hv hbv hkl hsz
              go_wp2_with (go_at_call 147; refine HTP.out.mono ?_; rintro e w2 ⟨v', m', f', rfl, o1, o2, o3, o4, o5⟩; have O1 := Lib.hid o1; have O3 := Lib.hid o3; have O4 := Lib.hid o4; have O5 := Lib.hid o5; clear o1 o3 o4 o5)
              go_roundw
              case rel => exact ⟨k + 1, by omega, by go_num, m', f', by omega, O1.out, O3.out, by rw [O4.out, HV.out], HB.out.trans O5.out⟩
              case measure => simp [intOf]; omega
            · obtain rfl : k = n := by omega
              obtain ⟨mm, f, h1, h2, h3, h4, h5⟩ := HR.out
              obtain ⟨p, cap, rfl, hmc, hcm, hpa⟩ : ∃ p cap, u6 = .slice p mm cap ∧ mm ≤ cap ∧ cap ≤ maxLen ∧ ∀ a, p = some a → w.heap.size + 1 ≤ a.block := by
                rcases h2.shape with ⟨rfl, rfl⟩ | ⟨g, cap, rfl, hbg, _, hnc, hcm⟩
                · exact ⟨_, _, rfl, by omega, by omega, fun a h => by cases h⟩
                · exact ⟨_, _, rfl, hnc, hcm, fun a h => by cases h; exact hbg⟩
              rw [List.take_of_length_le (by rw [HNN.out]; omega)] at h4
              have HSG := Lib.hid (signed_p false p mm cap f wr hmc hcm h2.at.2 h3)
              have HV := Lib.hid h4; have HB := Lib.hid h5
              clear h2 h3 h4 h5 HR
              go_wp2_with (go_at_call 148; refine HSG.out.mono ?_; rintro e w3 ⟨s3, p3, n3, c3, rfl, hx, hg, hp3⟩; have HX := Lib.hid hx; have HP3 := Lib.hid hp3; clear hp3; have hgg := gb_trans (below_gb (row := none) (a := w.alloc (.cells #[.bool false, .slice none 0 0] 58)) (by simpa using HB.out)) hg; have HG3 := Lib.hid hgg; obtain ⟨hcr3, hfr3⟩ := bcell hgg; have hz3 : w.heap.size < w3.heap.size := (by have := hgg.size; simp at this; omega); clear hx hg hgg)
              have hb := top1 w (.cells #[.bool false, .slice none 0 0] 58)
              obtain ⟨x, e1, e2, e3⟩ := ret_box hb HG3.out HX.out (gb_alloc (gb_refl w none) _) (Nat.le_refl _)
              injection e1 with e1; subst e1
              obtain ⟨rc0, rc1⟩ := ret_cells (s := s3) (p := p3) (n := n3) (c := c3) hb HG3.out
              refine bodyPost_ret (v := .tuple #[.agg #[.bool s3, .slice p3 n3 c3], .int .i64 0]) (by simp [results, Tryz.results115, go_sem, rc0, rc1]) rfl ⟨_, by rw [HE2.out], ?_, e3, ?_⟩
              · unfold parseV
                rw [if_pos HE2.out, HM.out, ← HV.out]; exact e2
              · intro s p' n c h h0
                simp at h
                obtain ⟨rfl, rfl, rfl, rfl⟩ := h
                obtain ⟨a, ha, _⟩ := int_some e2 h0
                refine ⟨a, ha, ?_⟩
                have := hpa a (by rw [← HP3.out h0]; exact ha)
                omega
        · have c1 : (d.toList == [48]) = false := by rw [toList_data, HD.out]; exact beq_eq_false_iff_ne.2 (fun h => h0 ⟨rfl, h⟩)
          clear h0
          go_enter Tryz.func115, Tryz.ntmps115
          go_wp2_with (first
            | (go_at_call 145; refine (HCUT.out _).mono ?_; rintro e w1 ⟨rfl, rfl⟩)
            | (go_at_call 146; refine (HPL.out _).mono ?_; rintro e w1 ⟨rfl, rfl⟩))
          go_loopw [6, 30] (fun v i wr => ∃ k : Nat, k ≤ n ∧ i = .int .i64 k ∧ Hid (PRel (digs s.data.toList) w k v wr)) (fun _ i _ => n - (intOf i).toNat)
          case atStart => exact ⟨0, by omega, rfl, HST⟩
          case round =>
            clear HST
            obtain ⟨k, hk, rfl, HR⟩ := hrel
            by_cases hlt : k < n
            · obtain ⟨mm, f, h1, h2, h3, h4, h5⟩ := HR.out
              have hkl : k < (digs s.data.toList).length := by rw [HNN.out]; exact hlt
              obtain ⟨b, hbv⟩ : ∃ b : Nat, ((digs s.data.toList)[k]'hkl).toNat = b := ⟨_, rfl⟩
              have hix := idx_run d k b (by rw [HD.out]; exact hkl) (by rw [← hbv]; simp only [HD.out])
              have hb := HDIG.out k hkl
              rw [hbv] at hb
              have hv := valL_take hkl
              rw [hbv, ← h4] at hv
              have hsz := h5.size
              have HTP := Lib.hid (timesPlus_c (w.heap.size + 1) u6 mm 10 (b - 48) f wr h2 h3 (by unfold Bw; omega) (by unfold Bw; omega) (by omega) (by simpa using hsz))
              have HV := Lib.hid hv; have HB := Lib.hid h5
              have hb8 : IntKind.u8.wrap ((b : Int) - 48) = ((b - 48 : Nat) : Int) := by rw [IntKind.wrap_u8]; omega
              clear h2 h3 h4 h5 hv hbv hkl hsz
              go_wp2_with (go_at_call 147; refine HTP.out.mono ?_; rintro e w2 ⟨v', m', f', rfl, o1, o2, o3, o4, o5⟩; have O1 := Lib.hid o1; have O3 := Lib.hid o3; have O4 := Lib.hid o4; have O5 := Lib.hid o5; clear o1 o3 o4 o5)
              go_roundw
              case rel => exact ⟨k + 1, by omega, by go_num, m', f', by omega, O1.out, O3.out, by rw [O4.out, HV.out], HB.out.trans O5.out⟩
              case measure => simp [intOf]; omega
            · obtain rfl : k = n := by omega
              obtain ⟨mm, f, h1, h2, h3, h4, h5⟩ := HR.out
              obtain ⟨p, cap, rfl, hmc, hcm, hpa⟩ : ∃ p cap, u6 = .slice p mm cap ∧ mm ≤ cap ∧ cap ≤ maxLen ∧ ∀ a, p = some a → w.heap.size + 1 ≤ a.block := by
                rcases h2.shape with ⟨rfl, rfl⟩ | ⟨g, cap, rfl, hbg, _, hnc, hcm⟩
                · exact ⟨_, _, rfl, by omega, by omega, fun a h => by cases h⟩
                · exact ⟨_, _, rfl, hnc, hcm, fun a h => by cases h; exact hbg⟩
              rw [List.take_of_length_le (by rw [HNN.out]; omega)] at h4
              have HSG := Lib.hid (signed_p true p mm cap f wr hmc hcm h2.at.2 h3)
              have HV := Lib.hid h4; have HB := Lib.hid h5
              clear h2 h3 h4 h5 HR
              go_wp2_with (go_at_call 148; refine HSG.out.mono ?_; rintro e w3 ⟨s3, p3, n3, c3, rfl, hx, hg, hp3⟩; have HX := Lib.hid hx; have HP3 := Lib.hid hp3; clear hp3; have hgg := gb_trans (below_gb (row := none) (a := w.alloc (.cells #[.bool false, .slice none 0 0] 58)) (by simpa using HB.out)) hg; have HG3 := Lib.hid hgg; obtain ⟨hcr3, hfr3⟩ := bcell hgg; have hz3 : w.heap.size < w3.heap.size := (by have := hgg.size; simp at this; omega); clear hx hg hgg)
              have hb := top1 w (.cells #[.bool false, .slice none 0 0] 58)
              obtain ⟨x, e1, e2, e3⟩ := ret_box hb HG3.out HX.out (gb_alloc (gb_refl w none) _) (Nat.le_refl _)
              injection e1 with e1; subst e1
              obtain ⟨rc0, rc1⟩ := ret_cells (s := s3) (p := p3) (n := n3) (c := c3) hb HG3.out
              refine bodyPost_ret (v := .tuple #[.agg #[.bool s3, .slice p3 n3 c3], .int .i64 0]) (by simp [results, Tryz.results115, go_sem, rc0, rc1]) rfl ⟨_, by rw [HE2.out], ?_, e3, ?_⟩
              · unfold parseV
                rw [if_pos HE2.out, HM.out, ← HV.out]; exact e2
              · intro s p' n c h h0
                simp at h
                obtain ⟨rfl, rfl, rfl, rfl⟩ := h
                obtain ⟨a, ha, _⟩ := int_some e2 h0
                refine ⟨a, ha, ?_⟩
                have := hpa a (by rw [← HP3.out h0]; exact ha)
                omega
end Go.Proofs.YtmlcpihedmmlfaaGreatDoor.Zd
namespace Go.Proofs.YtmlcpihedmmlfaaGreatDoor.Zd
open Go.RowKit Mx

theorem md_cons (t : List UInt8) : minus (45 :: t) = true ∧ digs (45 :: t) = t := by
  simp [minus, digs, Lib.hasPrefix, Lib.trimPrefix]
theorem md_other {x : UInt8} {t : List UInt8} (h : x.toNat ≠ 45) : minus (x :: t) = false ∧ digs (x :: t) = x :: t := by
  have hx : x ≠ 45 := fun e => h (by rw [e]; rfl)
  have h1 : Lib.hasPrefix (x :: t) [45] = false := by
    have : ((45 : UInt8) == x) = false := beq_eq_false_iff_ne.2 (fun e => hx e.symm)
    simp [Lib.hasPrefix, List.isPrefixOf, this]
  exact ⟨h1, by unfold digs Lib.trimPrefix; rw [h1]; rfl⟩

theorem md45 {l : List UInt8} (h : 0 < l.length) (hb : l[0].toNat = 45) : minus l = true ∧ digs l = l.drop 1 := by
  match l, h, hb with
  | x :: t, _, hb =>
    obtain rfl : x = 45 := UInt8.toNat_inj.1 hb
    exact md_cons t
theorem mdne {l : List UInt8} (h : 0 < l.length) (hb : l[0].toNat ≠ 45) : minus l = false ∧ digs l = l := by
  match l, h, hb with
  | x :: t, _, hb => exact md_other hb

/-- The j-th digit. -/
def dgt (D : List UInt8) (j : Nat) : Nat := (D.getD j 0).toNat - 48

theorem dgt_get {D : List UInt8} {j : Nat} (h : j < D.length) : dgt D j = D[j].toNat - 48 := by
  unfold dgt; rw [List.getD_eq_getElem?_getD, List.getElem?_eq_getElem h]; rfl

theorem valL_V (D : List UInt8) : ∀ k, k ≤ D.length → valL (D.take k) = V 10 (fun j => dgt D (k - 1 - j)) 0 k
  | 0, _ => by simp [valL, V]
  | k + 1, h => by
    rw [valL_take (by omega), valL_V D k (by omega), V_front, ← dgt_get]
    simp only [Nat.add_sub_cancel]
    rw [V_congr (f := fun j => dgt D (k - j)) (g := fun j => dgt D (k - 1 - j)) (o := 1) (p := 0) (fun j hj => by
      show dgt D (k - (1 + j)) = dgt D (k - 1 - (0 + j))
      congr 1; omega)]
    show _ = dgt D (k - 0) + _
    rw [Nat.sub_zero]; omega

theorem valL_all (D : List UInt8) : valL D = V 10 (fun j => dgt D (D.length - 1 - j)) 0 D.length := by
  have := valL_V D D.length (Nat.le_refl _)
  rwa [List.take_length] at this

theorem v10_pos {n : Nat} {f : Nat → Nat} (t : n = 0 ∨ f (n - 1) ≠ 0) : 0 < n ↔ V 10 f 0 n ≠ 0 := by
  constructor
  · intro h
    rcases V_top (b := 10) (f := f) (o := 0) (n := n) (by simpa using t) with e | e
    · omega
    · have := Nat.pow_pos (n := n - 1) (show 0 < 10 by omega); omega
  · intro h
    rcases Nat.eq_zero_or_pos n with e | e
    · subst e; exact absurd rfl h
    · exact e

theorem lim_le_pow {N k : Nat} (h : N ≤ Bw ^ k) (hk : k < LimN) : N < Lim := by
  unfold Lim
  exact Nat.lt_of_le_of_lt h (Nat.pow_lt_pow_right (by unfold Bw; omega) hk)

theorem valL_go (l : List UInt8) (h : ∀ b ∈ l, b.toNat ≤ 57) (a : Nat) : l.foldl (fun a b => 10 * a + (b.toNat - 48)) a < (a + 1) * 10 ^ l.length := by
  induction l generalizing a with
  | nil => simp
  | cons x xs ih =>
    have h1 := h x (by simp)
    have h2 := ih (fun b hb => h b (by simp [hb])) (10 * a + (x.toNat - 48))
    rw [List.foldl_cons, List.length_cons, Nat.pow_succ]
    refine Nat.lt_of_lt_of_le h2 ?_
    have h3 : 10 * a + (x.toNat - 48) + 1 ≤ (a + 1) * 10 := by omega
    calc (10 * a + (x.toNat - 48) + 1) * 10 ^ xs.length ≤ ((a + 1) * 10) * 10 ^ xs.length := Nat.mul_le_mul_right _ h3
      _ = (a + 1) * (10 ^ xs.length * 10) := by rw [Nat.mul_assoc, Nat.mul_comm 10]

theorem valL_lt {l : List UInt8} (h : plain l = true) : valL l < 10 ^ l.length := by
  have := valL_go l (fun b hb => by
    obtain ⟨j, hj, rfl⟩ := List.getElem_of_mem hb
    exact (plain_dig h j hj).2) 0
  simpa [valL] using this

theorem digs_le (l : List UInt8) : (digs l).length ≤ l.length := by
  unfold digs Lib.trimPrefix
  split
  · simp
  · exact Nat.le_refl _

/-- What is read from a text of k bytes is less than 10 to the power of k, and of 60. -/
theorem parseV_lt (l : List UInt8) : (parseV l).natAbs < 10 ^ l.length ∧ (parseV l).natAbs < 10 ^ 60 := by
  unfold parseV
  by_cases h : parseE l = 0
  · rw [if_pos h]
    have e : (sgn (minus l) (valL (digs l))).natAbs = valL (digs l) := by unfold sgn; split <;> simp
    rw [e]
    have h1 : plain (digs l) = true ∧ (digs l).length ≤ 60 := by
      unfold parseE at h
      by_cases h60 : 60 < (digs l).length
      · rw [if_pos h60] at h; omega
      · rw [if_neg h60] at h
        by_cases hp : plain (digs l) = false
        · rw [if_pos (.inl hp)] at h; omega
        · exact ⟨by simpa using hp, by omega⟩
    have h2 := valL_lt h1.1
    exact ⟨Nat.lt_of_lt_of_le h2 (Nat.pow_le_pow_right (by omega) (digs_le l)), Nat.lt_of_lt_of_le h2 (Nat.pow_le_pow_right (by omega) h1.2)⟩
  · rw [if_neg h]
    exact ⟨by simpa using Nat.pow_pos (by omega), by simp⟩

theorem parseV_lim (l : List UInt8) : (parseV l).natAbs < Lim := by
  refine lim_le_pow (k := 4) (Nat.le_of_lt (Nat.lt_of_lt_of_le (parseV_lt l).2 ?_)) (by unfold LimN; omega)
  have h1 : (10 : Nat) ^ 60 ≤ (10 ^ 19) ^ 4 := by rw [← Nat.pow_mul]; exact Nat.pow_le_pow_right (by omega) (by omega)
  exact Nat.le_trans h1 (Nat.pow_le_pow_left (by unfold Bw; omega) 4)

theorem decL_digits {D : List UInt8} (hp : ∀ j (hj : j < D.length), 48 ≤ D[j].toNat ∧ D[j].toNat ≤ 57) (h0 : 0 < D.length) (ht : D[0].toNat ≠ 48) : valL D ≠ 0 ∧ decL (valL D) = D := by
  have hv := valL_all D
  have hf : ∀ j, j < D.length → dgt D (D.length - 1 - j) < 10 := by
    intro j hj
    have hjl : D.length - 1 - j < D.length := by omega
    have := hp _ hjl
    rw [dgt_get hjl]; omega
  have htop : dgt D (D.length - 1 - (D.length - 1)) ≠ 0 := by
    rw [Nat.sub_self, dgt_get h0]
    have := hp 0 h0; omega
  have hne : valL D ≠ 0 := by
    rw [hv]; exact (v10_pos (f := fun j => dgt D (D.length - 1 - j)) (.inr htop)).1 h0
  obtain ⟨d1, d2⟩ := digits_of (f := fun j => dgt D (D.length - 1 - j)) hf h0 htop hv.symm
  refine ⟨hne, List.ext_getElem (by rw [decL_len, ← d1]) fun j h1 h2 => ?_⟩
  apply UInt8.toNat_inj.1
  rw [decL_get, ← d1, ← d2 (D.length - 1 - j) (by omega)]
  show 48 + dgt D (D.length - 1 - (D.length - 1 - j)) = _
  rw [show D.length - 1 - (D.length - 1 - j) = j by omega, dgt_get h2]
  have := hp j h2
  omega

theorem split_l (l : List UInt8) : l = if minus l then 45 :: digs l else digs l := by
  match l with
  | [] => rfl
  | x :: t =>
    by_cases hx : x.toNat = 45
    · obtain ⟨h1, h2⟩ := md45 (l := x :: t) (by simp) hx
      have : x = 45 := UInt8.toNat_inj.1 hx
      rw [h1, if_pos rfl, h2, this]; rfl
    · obtain ⟨h1, h2⟩ := mdne (l := x :: t) (by simp) hx
      rw [h1, h2]; rfl

theorem txtL_parse {l : List UInt8} (h : parseE l = 0) : txtL (parseV l) = l := by
  have hE := h
  unfold parseE at h
  by_cases h60 : 60 < (digs l).length
  · rw [if_pos h60] at h; cases h
  · rw [if_neg h60] at h
    by_cases hb : plain (digs l) = false ∨ (minus l = true ∧ digs l = [48])
    · rw [if_pos hb] at h; cases h
    · have hp : plain (digs l) = true := by
        rcases hp : plain (digs l) with _ | _
        · exact absurd (.inl hp) hb
        · rfl
      have hdig := plain_dig hp
      have hmz : ¬ (minus l = true ∧ digs l = [48]) := fun h => hb (.inr h)
      have hsp := split_l l
      unfold parseV
      rw [if_pos hE]
      by_cases hz : digs l = [48]
      · have hm : minus l = false := by
          rcases hm : minus l with _ | _
          · rfl
          · exact absurd ⟨hm, hz⟩ hmz
        rw [hm] at hsp
        simp only [Bool.false_eq_true, if_false] at hsp
        rw [hm, hz]
        rw [hz] at hsp
        rw [hsp]; rfl
      · have h0 : 0 < (digs l).length := by
          rcases Nat.eq_zero_or_pos (digs l).length with e | e
          · rw [List.eq_nil_of_length_eq_zero e] at hp; cases hp
          · exact e
        have ht : (digs l)[0].toNat ≠ 48 := by
          intro e
          have e0 : (digs l)[0] = 48 := UInt8.toNat_inj.1 e
          unfold plain at hp
          rw [decide_eq_false hz, List.head?_eq_getElem?, List.getElem?_eq_getElem h0, e0] at hp
          simp at hp
        obtain ⟨k1, k2⟩ := decL_digits hdig h0 ht
        rcases hm : minus l with _ | _
        · rw [hm] at hsp
          simp only [Bool.false_eq_true, if_false] at hsp
          show txtL ((valL (digs l) : Nat) : Int) = l
          rw [txt_pos k1, k2]; exact hsp.symm
        · rw [hm] at hsp
          simp only [if_true] at hsp
          show txtL (-((valL (digs l) : Nat) : Int)) = l
          rw [txt_neg k1, k2]; exact hsp.symm

end Go.Proofs.YtmlcpihedmmlfaaGreatDoor.Zd
namespace Go.Proofs.YtmlcpihedmmlfaaGreatDoor
open Go.RowKit

/-- The number of an expression: of a Lit what its digits tell, else none. -/
def NumAt (F : Nat → Prop) (w : World) (op : Nat) (nu : List UInt8) (s : Bool) (p : Option Addr) (n c : Nat) : Prop :=
  if op = 1 then Zd.IsInt w (.agg #[.bool s, .slice p n c]) (Zd.parseV nu) ∧ Zd.parseE nu = 0 ∧ (0 < n → ∃ a, p = some a ∧ F a.block) else s = false ∧ p = none ∧ n = 0 ∧ c = 0
mutual
/-- Eight cells read as an expression; all its memory lies in F. -/
def EAt (F : Nat → Prop) (w : World) : Ex → List Value → Prop
  | .mk op nm md nu ys ks ps, q => ∃ s pw nw cw pk ck rows, q = [.int .i64 (op : Int), strV nm, strV md, .bool s, .slice pw nw cw, .bool ys, .slice pk ks.length ck, .int .i64 (ps : Int)] ∧ NumAt F w op nu s pw nw cw ∧ GAt 8 w pk rows ∧ LsE F w ks rows ∧ (ks ≠ [] → ∃ a, pk = some a ∧ F a.block)
def LsE (F : Nat → Prop) (w : World) : List Ex → List (List Value) → Prop
  | [], r => r = []
  | x :: l, r => ∃ q r', r = q :: r' ∧ EAt F w x q ∧ LsE F w l r'
end

theorem int_same {S : Nat → Prop} {w w' : World} {s : Bool} {p : Option Addr} {n c : Nat} {Z : Int} (h : Zd.IsInt w (.agg #[.bool s, .slice p n c]) Z) (hg : Fr2 S w w') (hS : 0 < n → ∀ a, p = some a → ¬ S a.block) : Zd.IsInt w' (.agg #[.bool s, .slice p n c]) Z := by
  obtain ⟨s', v, N, he, ⟨p', n', c', f, rfl, h1, h2, h3, h4⟩, r⟩ := h
  simp only [Value.agg.injEq, Array.mk.injEq, List.cons.injEq, Value.bool.injEq, Value.slice.injEq, and_true] at he
  obtain ⟨rfl, rfl, rfl, rfl⟩ := he
  refine ⟨s, _, N, rfl, ⟨p, n, c, f, rfl, h1, h2, ?_, h4⟩, r⟩
  rcases Nat.eq_zero_or_pos n with h0 | h0
  · exact .inl h0
  · obtain ⟨g, off, rfl, hl, hc⟩ := Or.resolve_left h3 (by omega)
    exact .inr ⟨g, off, rfl, Nat.lt_of_lt_of_le hl hg.size, fun j hj => by rw [World.cell?_of_block (w := w) (hg.block g hl (hS h0 _ rfl))]; exact hc j hj⟩
theorem NumAt.same {F S : Nat → Prop} {w w' : World} {op : Nat} {nu : List UInt8} {s : Bool} {p : Option Addr} {n c : Nat} (h : NumAt F w op nu s p n c) (hg : Fr2 S w w') (hS : ∀ k, F k → ¬ S k) : NumAt F w' op nu s p n c := by
  unfold NumAt at h ⊢
  split
  · rename_i ho
    rw [if_pos ho] at h
    exact ⟨int_same h.1 hg (fun h0 a ha => by obtain ⟨b, hb, hF⟩ := h.2.2 h0; rw [ha] at hb; injection hb with hb; subst hb; exact hS _ hF), h.2⟩
  · rename_i ho
    rw [if_neg ho] at h; exact h
theorem NumAt.mono {F F' : Nat → Prop} {w : World} {op : Nat} {nu : List UInt8} {s : Bool} {p : Option Addr} {n c : Nat} (h : NumAt F w op nu s p n c) (hF : ∀ k, F k → F' k) : NumAt F' w op nu s p n c := by
  unfold NumAt at h ⊢
  split
  · rename_i ho
    rw [if_pos ho] at h
    exact ⟨h.1, h.2.1, fun h0 => by obtain ⟨a, ha, h1⟩ := h.2.2 h0; exact ⟨a, ha, hF _ h1⟩⟩
  · rename_i ho
    rw [if_neg ho] at h; exact h

theorem Ls_len {F : Nat → Prop} {w : World} : ∀ {l : List Ex} {r : List (List Value)}, LsE F w l r → r.length = l.length
  | [], r, h => by simp only [LsE] at h; rw [h]; rfl
  | x :: l, r, h => by
    simp only [LsE] at h
    obtain ⟨q, r', rfl, -, h2⟩ := h
    rw [List.length_cons, Ls_len h2]; rfl
theorem Ls_get {F : Nat → Prop} {w : World} : ∀ {l : List Ex} {r : List (List Value)} {j : Nat} {x : Ex}, LsE F w l r → l[j]? = some x → ∃ q, r[j]? = some q ∧ EAt F w x q
  | [], r, j, x, h, hx => by simp at hx
  | y :: l, r, j, x, h, hx => by
    simp only [LsE] at h
    obtain ⟨q, r', rfl, h1, h2⟩ := h
    match j, hx with
    | 0, hx => simp at hx; subst hx; exact ⟨q, rfl, h1⟩
    | j + 1, hx =>
      obtain ⟨q', hq, hr⟩ := Ls_get h2 (j := j) (by simpa using hx)
      exact ⟨q', by simpa using hq, hr⟩
theorem Ls_snoc {F : Nat → Prop} {w : World} {x : Ex} {q : List Value} (hx : EAt F w x q) : ∀ {l : List Ex} {r : List (List Value)}, LsE F w l r → LsE F w (l ++ [x]) (r ++ [q])
  | [], r, h => by simp only [LsE] at h; subst h; simp only [List.nil_append, LsE]; exact ⟨q, [], rfl, hx, rfl⟩
  | y :: l, r, h => by
    simp only [LsE] at h
    obtain ⟨q', r', rfl, h1, h2⟩ := h
    simp only [List.cons_append, LsE]
    exact ⟨q', _, rfl, h1, Ls_snoc hx h2⟩
theorem gat_same {S F : Nat → Prop} {w w' : World} {p : Option Addr} {rows : List (List Value)} {n : Nat} (hr : rows.length = n) (h : GAt 8 w p rows) (hF : 0 < n → ∃ a, p = some a ∧ F a.block) (hg : Fr2 S w w') (hS : ∀ k, F k → ¬ S k) : GAt 8 w' p rows :=
  h.keptS hg (fun h0 a ha => by
    obtain ⟨b, hb, h1⟩ := hF (by have := List.length_pos_iff.2 h0; omega)
    rw [ha] at hb; injection hb with hb; subst hb; exact hS _ h1)
mutual
theorem EAt.same {F S : Nat → Prop} {w w' : World} (hg : Fr2 S w w') (hS : ∀ k, F k → ¬ S k) : ∀ {x : Ex} {q : List Value}, EAt F w x q → EAt F w' x q
  | .mk op nm md nu ys ks ps, q, h => by
    simp only [EAt] at h ⊢
    obtain ⟨s, pw, nw, cw, pk, ck, rows, h1, h2, h3, h4, h5⟩ := h
    exact ⟨s, pw, nw, cw, pk, ck, rows, h1, h2.same hg hS, gat_same (Ls_len h4) h3 (fun h0 => h5 (List.length_pos_iff.1 h0)) hg hS, LsE.same hg hS h4, h5⟩
theorem LsE.same {F S : Nat → Prop} {w w' : World} (hg : Fr2 S w w') (hS : ∀ k, F k → ¬ S k) : ∀ {l : List Ex} {r : List (List Value)}, LsE F w l r → LsE F w' l r
  | [], r, h => by simp only [LsE] at h ⊢; exact h
  | x :: l, r, h => by
    simp only [LsE] at h ⊢
    obtain ⟨q, r', h1, h2, h3⟩ := h
    exact ⟨q, r', h1, EAt.same hg hS h2, LsE.same hg hS h3⟩
end
mutual
theorem EAt.mono {F F' : Nat → Prop} {w : World} (hF : ∀ k, F k → F' k) : ∀ {x : Ex} {q : List Value}, EAt F w x q → EAt F' w x q
  | .mk op nm md nu ys ks ps, q, h => by
    simp only [EAt] at h ⊢
    obtain ⟨s, pw, nw, cw, pk, ck, rows, h1, h2, h3, h4, h5⟩ := h
    exact ⟨s, pw, nw, cw, pk, ck, rows, h1, h2.mono hF, h3, LsE.mono hF h4, fun h0 => by obtain ⟨a, ha, h6⟩ := h5 h0; exact ⟨a, ha, hF _ h6⟩⟩
theorem LsE.mono {F F' : Nat → Prop} {w : World} (hF : ∀ k, F k → F' k) : ∀ {l : List Ex} {r : List (List Value)}, LsE F w l r → LsE F' w l r
  | [], r, h => by simp only [LsE] at h ⊢; exact h
  | x :: l, r, h => by
    simp only [LsE] at h ⊢
    obtain ⟨q, r', h1, h2, h3⟩ := h
    exact ⟨q, r', h1, EAt.mono hF h2, LsE.mono hF h3⟩
end
theorem EAt.kept {F : Nat → Prop} {w w' : World} {x : Ex} {q : List Value} (h : EAt F w x q) (hg : w.grownBy w' none) : EAt F w' x q := EAt.same (S := fun _ => False) (Fr2.none hg) (fun _ _ h => h) h
theorem LsE.kept {F : Nat → Prop} {w w' : World} {l : List Ex} {r : List (List Value)} (h : LsE F w l r) (hg : w.grownBy w' none) : LsE F w' l r := LsE.same (S := fun _ => False) (Fr2.none hg) (fun _ _ h => h) h

/-- What is answered where an expression is. -/
def ExPost (x : Ex) (w : World) (e : Ending) (w' : World) : Prop := w.grownBy w' none ∧ ∃ q, e = .returned (.agg q.toArray) ∧ EAt (fun k => w.heap.size ≤ k) w' x q

/-! ### Numbers' digits -/

theorem dig_nat {b : UInt8} (h : isDig b = true) : 48 ≤ b.toNat ∧ b.toNat ≤ 57 := by
  unfold isDig at h
  rw [Bool.and_eq_true] at h
  exact ⟨UInt8.le_iff_toNat_le.1 (of_decide_eq_true h.1), UInt8.le_iff_toNat_le.1 (of_decide_eq_true h.2)⟩
theorem num_parse {t : List UInt8} (h : numOk t) : Zd.parseE t = 0 ∧ Zd.txtL (Zd.parseV t) = t := by
  obtain ⟨h0, h60, hd, hz⟩ := h
  have hm : Zd.minus t = false ∧ Zd.digs t = t := Zd.mdne h0 (by have := dig_nat (hd _ (List.getElem_mem h0)); omega)
  have hp : Zd.plain t = true := by
    unfold Zd.plain
    rw [Bool.and_eq_true, List.all_eq_true]
    refine ⟨fun b hb => decide_eq_true (dig_nat (hd b hb)), ?_⟩
    rw [Bool.or_eq_true, Bool.and_eq_true]
    by_cases h1 : 1 < t.length
    · exact .inr ⟨decide_eq_true (List.length_pos_iff.1 h0), decide_eq_true (hz h1)⟩
    · obtain ⟨a, rfl⟩ : ∃ a, t = [a] := List.length_eq_one_iff.1 (by omega)
      by_cases ha : a = 48
      · subst ha; exact .inl rfl
      · exact .inr ⟨rfl, decide_eq_true (by simpa using ha)⟩
  have he : Zd.parseE t = 0 := by
    unfold Zd.parseE
    rw [hm.1, hm.2, if_neg (by omega), if_neg (by rw [hp]; simp)]
  exact ⟨he, Zd.txtL_parse he⟩

/-! ### Trees in a row of nodes -/

def TrAt (N : List Nd) (k : Int) (t : Tr) : Prop := ∃ b : Nat, k = ((b + szR t - 1 : Nat) : Int) ∧ PartAt N b (post b t)
def KT (N : List Nd) (n : Nat) (ks : List Int) (l : List Tr) : Prop := ks.length = l.length ∧ ∀ (j : Nat) (t : Tr), l[j]? = some t → ∃ k : Nat, ks[j]? = some (k : Int) ∧ TrAt N k t ∧ k < n
theorem TrAt.lf {N : List Nd} {k : Int} {i : Nat} (h : TrAt N k (.lf i)) : ∃ n : Nat, k = (n : Int) ∧ N[n]? = some ⟨19, (i : Int), []⟩ := by
  obtain ⟨b, rfl, h⟩ := h
  have := h 0 ⟨19, (i : Int), []⟩ (by simp [post])
  exact ⟨b, by simp only [szR]; omega, by simpa using this⟩
theorem kt_posts {N : List Nd} : ∀ (l : List Tr) (b n : Nat), b + szRs l ≤ n → PartAt N b (posts b l) → KT N n (idxs b l) l
  | [], b, n, _, _ => ⟨by simp [idxs], fun j t ht => by simp at ht⟩
  | t :: l, b, n, hn, h => by
    simp only [posts] at h
    simp only [szRs] at hn
    have h2 := h.right
    rw [post_len] at h2
    have ih := kt_posts l (b + szR t) n (by omega) h2
    have hp := szR_pos t
    refine ⟨by simp only [idxs, List.length_cons]; rw [ih.1], fun j u hu => ?_⟩
    match j, hu with
    | 0, hu =>
      simp at hu; subst hu
      exact ⟨b + szR t - 1, by simp [idxs], ⟨b, rfl, h.left⟩, by omega⟩
    | j + 1, hu =>
      obtain ⟨k, hk, hr⟩ := ih.2 j u (by simpa using hu)
      exact ⟨k, by simpa [idxs] using hk, hr⟩
theorem TrAt.nd {N : List Nd} {k : Int} {m : Nat} {l : List Tr} (h : TrAt N k (.nd m l)) : ∃ (n : Nat) (ks : List Int), k = (n : Int) ∧ N[n]? = some ⟨(m : Int), -1, ks⟩ ∧ KT N n ks l := by
  obtain ⟨b, rfl, h⟩ := h
  simp only [post] at h
  have h1 := h.right 0 ⟨(m : Int), -1, idxs b l⟩ (by simp)
  rw [posts_len] at h1
  refine ⟨b + szRs l, idxs b l, by simp only [szR]; omega, by simpa using h1, kt_posts l b _ (Nat.le_refl _) h.left⟩
theorem TrAt.root (t : Tr) : TrAt (post 0 t) ((szR t - 1 : Nat) : Int) t := ⟨0, by rw [Nat.zero_add], part_self _⟩
end Go.Proofs.YtmlcpihedmmlfaaGreatDoor
namespace Go.Proofs.YtmlcpihedmmlfaaGreatDoor
open Go.RowKit

theorem put4c {W : World} {B : Nat} {T : TypeId} {x0 x1 x2 x3 : Value} (h0 : W.heap[B]? = some (.cells #[x0, x1, x2, x3] T (0, 0))) (a b c d : Value) : ((((W.setCell ⟨B, 0, none⟩ a).setCell ⟨B, 1, none⟩ b).setCell ⟨B, 2, none⟩ c).setCell ⟨B, 3, none⟩ d).heap[B]? = some (.cells #[a, b, c, d] T (0, 0)) ∧ Fr2 (Self B) W ((((W.setCell ⟨B, 0, none⟩ a).setCell ⟨B, 1, none⟩ b).setCell ⟨B, 2, none⟩ c).setCell ⟨B, 3, none⟩ d) := by
  have h1 : (W.setCell ⟨B, 0, none⟩ a).heap[B]? = some (.cells #[a, x1, x2, x3] T (0, 0)) := set_cells (i := 0) (u := a) h0
  have h2 : ((W.setCell ⟨B, 0, none⟩ a).setCell ⟨B, 1, none⟩ b).heap[B]? = some (.cells #[a, b, x2, x3] T (0, 0)) := set_cells (i := 1) (u := b) h1
  have h3 : (((W.setCell ⟨B, 0, none⟩ a).setCell ⟨B, 1, none⟩ b).setCell ⟨B, 2, none⟩ c).heap[B]? = some (.cells #[a, b, c, x3] T (0, 0)) := set_cells (i := 2) (u := c) h2
  have h4 : ((((W.setCell ⟨B, 0, none⟩ a).setCell ⟨B, 1, none⟩ b).setCell ⟨B, 2, none⟩ c).setCell ⟨B, 3, none⟩ d).heap[B]? = some (.cells #[a, b, c, d] T (0, 0)) := set_cells (i := 3) (u := d) h3
  exact ⟨h4, (Fr2.setCell (Fr2.setCell (Fr2.setCell (Fr2.setCell (Fr2.refl (Self B) W) (g := B) (j := 0) (mine B) a) (g := B) (j := 1) (mine B) b) (g := B) (j := 2) (mine B) c) (g := B) (j := 3) (mine B) d)⟩
theorem put8c {W : World} {B : Nat} {T : TypeId} {x0 x1 x2 x3 x4 x5 x6 x7 : Value} (h0 : W.heap[B]? = some (.cells #[x0, x1, x2, x3, x4, x5, x6, x7] T (0, 0))) (a b c d e f g h : Value) : ((((((((W.setCell ⟨B, 0, none⟩ a).setCell ⟨B, 1, none⟩ b).setCell ⟨B, 2, none⟩ c).setCell ⟨B, 3, none⟩ d).setCell ⟨B, 4, none⟩ e).setCell ⟨B, 5, none⟩ f).setCell ⟨B, 6, none⟩ g).setCell ⟨B, 7, none⟩ h).heap[B]? = some (.cells #[a, b, c, d, e, f, g, h] T (0, 0)) ∧ Fr2 (Self B) W ((((((((W.setCell ⟨B, 0, none⟩ a).setCell ⟨B, 1, none⟩ b).setCell ⟨B, 2, none⟩ c).setCell ⟨B, 3, none⟩ d).setCell ⟨B, 4, none⟩ e).setCell ⟨B, 5, none⟩ f).setCell ⟨B, 6, none⟩ g).setCell ⟨B, 7, none⟩ h) := by
  have h1 : (W.setCell ⟨B, 0, none⟩ a).heap[B]? = some (.cells #[a, x1, x2, x3, x4, x5, x6, x7] T (0, 0)) := set_cells (i := 0) (u := a) h0
  have h2 : ((W.setCell ⟨B, 0, none⟩ a).setCell ⟨B, 1, none⟩ b).heap[B]? = some (.cells #[a, b, x2, x3, x4, x5, x6, x7] T (0, 0)) := set_cells (i := 1) (u := b) h1
  have h3 : (((W.setCell ⟨B, 0, none⟩ a).setCell ⟨B, 1, none⟩ b).setCell ⟨B, 2, none⟩ c).heap[B]? = some (.cells #[a, b, c, x3, x4, x5, x6, x7] T (0, 0)) := set_cells (i := 2) (u := c) h2
  have h4 : ((((W.setCell ⟨B, 0, none⟩ a).setCell ⟨B, 1, none⟩ b).setCell ⟨B, 2, none⟩ c).setCell ⟨B, 3, none⟩ d).heap[B]? = some (.cells #[a, b, c, d, x4, x5, x6, x7] T (0, 0)) := set_cells (i := 3) (u := d) h3
  have h5 : (((((W.setCell ⟨B, 0, none⟩ a).setCell ⟨B, 1, none⟩ b).setCell ⟨B, 2, none⟩ c).setCell ⟨B, 3, none⟩ d).setCell ⟨B, 4, none⟩ e).heap[B]? = some (.cells #[a, b, c, d, e, x5, x6, x7] T (0, 0)) := set_cells (i := 4) (u := e) h4
  have h6 : ((((((W.setCell ⟨B, 0, none⟩ a).setCell ⟨B, 1, none⟩ b).setCell ⟨B, 2, none⟩ c).setCell ⟨B, 3, none⟩ d).setCell ⟨B, 4, none⟩ e).setCell ⟨B, 5, none⟩ f).heap[B]? = some (.cells #[a, b, c, d, e, f, x6, x7] T (0, 0)) := set_cells (i := 5) (u := f) h5
  have h7 : (((((((W.setCell ⟨B, 0, none⟩ a).setCell ⟨B, 1, none⟩ b).setCell ⟨B, 2, none⟩ c).setCell ⟨B, 3, none⟩ d).setCell ⟨B, 4, none⟩ e).setCell ⟨B, 5, none⟩ f).setCell ⟨B, 6, none⟩ g).heap[B]? = some (.cells #[a, b, c, d, e, f, g, x7] T (0, 0)) := set_cells (i := 6) (u := g) h6
  have h8 : ((((((((W.setCell ⟨B, 0, none⟩ a).setCell ⟨B, 1, none⟩ b).setCell ⟨B, 2, none⟩ c).setCell ⟨B, 3, none⟩ d).setCell ⟨B, 4, none⟩ e).setCell ⟨B, 5, none⟩ f).setCell ⟨B, 6, none⟩ g).setCell ⟨B, 7, none⟩ h).heap[B]? = some (.cells #[a, b, c, d, e, f, g, h] T (0, 0)) := set_cells (i := 7) (u := h) h7
  exact ⟨h8, (Fr2.setCell (Fr2.setCell (Fr2.setCell (Fr2.setCell (Fr2.setCell (Fr2.setCell (Fr2.setCell (Fr2.setCell (Fr2.refl (Self B) W) (g := B) (j := 0) (mine B) a) (g := B) (j := 1) (mine B) b) (g := B) (j := 2) (mine B) c) (g := B) (j := 3) (mine B) d) (g := B) (j := 4) (mine B) e) (g := B) (j := 5) (mine B) f) (g := B) (j := 6) (mine B) g) (g := B) (j := 7) (mine B) h)⟩
theorem cells8x {w : World} {r : Nat} {a b c d e f g h : Value} {T : TypeId} (h0 : w.heap[r]? = some (.cells #[a, b, c, d, e, f, g, h] T (0, 0))) : w.cell? ⟨r, 0, none⟩ = some a ∧ w.cell? ⟨r, 1, none⟩ = some b ∧ w.cell? ⟨r, 2, none⟩ = some c ∧ w.cell? ⟨r, 3, none⟩ = some d ∧ w.cell? ⟨r, 4, none⟩ = some e ∧ w.cell? ⟨r, 5, none⟩ = some f ∧ w.cell? ⟨r, 6, none⟩ = some g ∧ w.cell? ⟨r, 7, none⟩ = some h ∧ ∀ o, w.frozen? ⟨r, o, none⟩ = false :=
  ⟨by rw [cell_of_row w r 0 _ T (0, 0) h0]; rfl, by rw [cell_of_row w r 1 _ T (0, 0) h0]; rfl, by rw [cell_of_row w r 2 _ T (0, 0) h0]; rfl, by rw [cell_of_row w r 3 _ T (0, 0) h0]; rfl, by rw [cell_of_row w r 4 _ T (0, 0) h0]; rfl, by rw [cell_of_row w r 5 _ T (0, 0) h0]; rfl, by rw [cell_of_row w r 6 _ T (0, 0) h0]; rfl, by rw [cell_of_row w r 7 _ T (0, 0) h0]; rfl, fun o => by simp [World.frozen?, h0]⟩

set_option maxRecDepth 100000 in
set_option maxHeartbeats 4000000 in
theorem kind_r {N : List Nd} {K : Kf} (hN : N.length ≤ 150000) {n : Nat} {x : Nd} (hx : N[n]? = some x) (pt pn : Option Addr) (mt ct cn : Nat) (w : World) (h : NodesAt w pn N K) :
    Calls Tryz.prog 67 #[.agg #[.slice pt mt ct, .slice pn N.length cn], .int .i64 (n : Int)] w (ValPost (.int .i64 x.kind) w) := by
  obtain ⟨g, off, rfl, hgl, c0, c1, c2⟩ := node_at h hx
  have hn := (List.getElem?_eq_some_iff.1 hx).1
  obtain ⟨M, hM⟩ : ∃ M, N.length = M := ⟨_, rfl⟩
  rw [hM] at hN hn ⊢
  have x1 : (0 : Int) ≤ (n : Int) := by omega
  have x2 : (n : Int) < (M : Int) := by omega
  have x3 : decide (n < M) = true := decide_eq_true hn
  have x4 : decide ((n : Int) < (M : Int)) = true := decide_eq_true x2
  clear h hx hM
  go_enter Tryz.func67, Tryz.ntmps67
  go_wp2_with fail
  go_ret
  exact ⟨rfl, World.grownBy_alloc w _ none⟩

set_option maxRecDepth 100000 in
set_option maxHeartbeats 4000000 in
theorem kids_r {N : List Nd} {K : Kf} (hN : N.length ≤ 150000) {n : Nat} {x : Nd} (hx : N[n]? = some x) (pt pn : Option Addr) (mt ct cn : Nat) (w : World) (h : NodesAt w pn N K) :
    Calls Tryz.prog 45 #[.agg #[.slice pt mt ct, .slice pn N.length cn], .int .i64 (n : Int)] w (ValPost (.slice (K n).1 x.kids.length (K n).2) w) := by
  obtain ⟨g, off, rfl, hgl, c0, c1, c2⟩ := node_at h hx
  have hn := (List.getElem?_eq_some_iff.1 hx).1
  obtain ⟨M, hM⟩ : ∃ M, N.length = M := ⟨_, rfl⟩
  rw [hM] at hN hn ⊢
  have x1 : (0 : Int) ≤ (n : Int) := by omega
  have x2 : (n : Int) < (M : Int) := by omega
  have x3 : decide (n < M) = true := decide_eq_true hn
  have x4 : decide ((n : Int) < (M : Int)) = true := decide_eq_true x2
  generalize (K n).1 = pk at *
  generalize (K n).2 = ck at *
  clear h hx hM
  go_enter Tryz.func45, Tryz.ntmps45
  go_wp2_with fail
  go_ret
  exact ⟨rfl, World.grownBy_alloc w _ none⟩

/-- The four cells of a token in a slice. -/
theorem tok_cells {w : World} {p : Option Addr} {T : List Tok} (h : TAt w p T) {i : Nat} (hi : i < T.length) : ∃ g off, p = some ⟨g, off, none⟩ ∧ g < w.heap.size ∧ w.cell? ⟨g, off + i * 4, none⟩ = some (.int .i64 ((tkT T i).kind : Int)) ∧ w.cell? ⟨g, off + i * 4 + 1, none⟩ = some (strV (tkT T i).lead) ∧ w.cell? ⟨g, off + i * 4 + 2, none⟩ = some (strV (tkT T i).text) ∧ w.cell? ⟨g, off + i * 4 + 3, none⟩ = some (.int .i64 ((tkT T i).pos : Int)) := by
  have ht : T[i]? = some (tkT T i) := by unfold tkT; rw [List.getElem?_eq_getElem hi]; rfl
  obtain ⟨g, off, rfl, hl, hc⟩ := h.resolve_left (fun e => by rw [e] at hi; simp at hi)
  exact ⟨g, off, rfl, hl, hc i _ ht⟩
def tokVal (t : Tok) : Value := .agg #[.int .i64 (t.kind : Int), strV t.lead, strV t.text, .int .i64 (t.pos : Int)]

set_option maxRecDepth 100000 in
set_option maxHeartbeats 8000000 in
theorem token_r {T : List Tok} {N : List Nd} {K : Kf} (hT : T.length ≤ 150000) (hN : N.length ≤ 150000) {n i : Nat} (hx : N[n]? = some ⟨19, (i : Int), []⟩) (hi : i < T.length) (pt pn : Option Addr) (ct cn : Nat) (w : World) (ht : TAt w pt T) (h : NodesAt w pn N K) :
    Calls Tryz.prog 107 #[.agg #[.slice pt T.length ct, .slice pn N.length cn], .int .i64 (n : Int)] w (ValPost (tokVal (tkT T i)) w) := by
  obtain ⟨g, off, rfl, hgl, c0, c1, c2⟩ := node_at h hx
  obtain ⟨g2, off2, rfl, hgl2, t0, t1, t2, t3⟩ := tok_cells ht hi
  have hn := (List.getElem?_eq_some_iff.1 hx).1
  obtain ⟨M, hM⟩ : ∃ M, N.length = M := ⟨_, rfl⟩
  obtain ⟨m, hm⟩ : ∃ m, T.length = m := ⟨_, rfl⟩
  rw [hM] at hN hn ⊢
  rw [hm] at hT hi ⊢
  have x1 : (0 : Int) ≤ (n : Int) := by omega
  have x2 : (n : Int) < (M : Int) := by omega
  have x3 : decide (n < M) = true := decide_eq_true hn
  have x4 : decide ((n : Int) < (M : Int)) = true := decide_eq_true x2
  have y1 : (0 : Int) ≤ (i : Int) := by omega
  have y2 : (i : Int) < (m : Int) := by omega
  have y3 : decide (i < m) = true := decide_eq_true hi
  have y4 : decide ((i : Int) < (m : Int)) = true := decide_eq_true y2
  unfold tokVal
  unfold strV at t1 t2 ⊢
  generalize (⟨(tkT T i).lead.toArray⟩ : ByteArray) = le at *
  generalize (⟨(tkT T i).text.toArray⟩ : ByteArray) = te at *
  generalize (tkT T i).kind = k at *
  generalize (tkT T i).pos = p at *
  clear h hx hM ht hm c0 c2
  go_enter Tryz.func107, Tryz.ntmps107
  go_wp2_with fail
  have hA := heap_alloc_new w (.cells #[.slice (some ⟨g2, off2, none⟩) m ct, .slice (some ⟨g, off, none⟩) M cn] 87)
  have hgA := World.grownBy_alloc w (.cells #[.slice (some ⟨g2, off2, none⟩) m ct, .slice (some ⟨g, off, none⟩) M cn] 87) none
  have hsA : (w.alloc (.cells #[.slice (some ⟨g2, off2, none⟩) m ct, .slice (some ⟨g, off, none⟩) M cn] 87)).heap.size = w.heap.size + 1 := by simp
  generalize (w.alloc (.cells #[.slice (some ⟨g2, off2, none⟩) m ct, .slice (some ⟨g, off, none⟩) M cn] 87)) = W1 at *
  have hB := heap_alloc_new W1 (.cells #[.int .i64 0, .string ⟨#[]⟩, .string ⟨#[]⟩, .int .i64 0] 96)
  have hgB := World.grownBy_alloc W1 (.cells #[.int .i64 0, .string ⟨#[]⟩, .string ⟨#[]⟩, .int .i64 0] 96) none
  rw [hsA] at hB
  generalize (W1.alloc (.cells #[.int .i64 0, .string ⟨#[]⟩, .string ⟨#[]⟩, .int .i64 0] 96)) = W at *
  obtain ⟨b, hb⟩ : ∃ b, w.heap.size = b := ⟨_, rfl⟩
  have HBW := Lib.hid hb
  rw [hb] at hA hB ⊢
  obtain ⟨b1, hb1⟩ : ∃ x, b + 1 = x := ⟨_, rfl⟩
  rw [hb1] at hB ⊢
  have hlt : b < b1 := by omega
  have hA2 := bx hgB hA
  obtain ⟨a0, a1, a2⟩ := cells2 hA2
  have HG0 := Lib.hid (gb_trans hgA hgB)
  have c1 := HG0.out.cell c1 (by simp)
  have t0 := HG0.out.cell t0 (by simp)
  have t1 := HG0.out.cell t1 (by simp)
  have t2 := HG0.out.cell t2 (by simp)
  have t3 := HG0.out.cell t3 (by simp)
  have HB := Lib.hid hB
  obtain ⟨r0, r1, r2, r3, r4⟩ := cells4' hB
  clear hA hA2 hB hgA hgB hsA hb hb1
  go_region
  all_goals
    obtain ⟨hb5, hf5⟩ := put4c HB.out (.int .i64 (k : Int)) (.string le) (.string te) (.int .i64 (p : Int))
    have HF5 := Lib.hid hf5
    obtain ⟨k0, k1, k2, k3, -⟩ := cells4' hb5
    clear a0 a1 a2 r0 r1 r2 r3 r4 c1 t0 t1 t2 t3 HB hb5 hf5
    generalize ((((W.setCell ⟨b1, 0, none⟩ (.int .i64 (k : Int))).setCell ⟨b1, 1, none⟩ (.string le)).setCell ⟨b1, 2, none⟩ (.string te)).setCell ⟨b1, 3, none⟩ (.int .i64 (p : Int))) = W5 at *
    go_wp2_with fail
    refine bodyPost_ret (v := .agg #[.int .i64 (k : Int), .string le, .string te, .int .i64 (p : Int)]) (by simp [results, Tryz.results107, go_sem, k0, k1, k2, k3]) rfl ⟨rfl, Fr2.after HG0.out (fr2_drew HF5.out) (fun j hj => by have e : j = b1 := hj; rw [HBW.out]; omega)⟩

set_option maxRecDepth 100000 in
set_option maxHeartbeats 4000000 in
theorem unary_c (x : ByteArray) (w : World) : Calls Tryz.prog 113 #[.string x] w (ValPost (.int .i64 (unE x.data.toList : Nat)) w) := by
  have hx : x.toList = x.data.toList := ByteArray.toList_eq x
  by_cases h : x.data.toList = [45]
  · have e : unE x.data.toList = 5 := by unfold unE; rw [if_pos h]
    have e1 : (x.toList == [45]) = true := by rw [hx]; simpa using h
    rw [e]
    clear hx h e
    go_enter Tryz.func113, Tryz.ntmps113
    go_wp2_with fail
    go_ret
    exact ⟨rfl, gb_refl _ _⟩
  · have e : unE x.data.toList = 6 := by unfold unE; rw [if_neg h]
    have e1 : (x.toList == [45]) = false := by rw [hx]; simpa using h
    rw [e]
    clear hx h e
    go_enter Tryz.func113, Tryz.ntmps113
    go_wp2_with fail
    go_ret
    exact ⟨rfl, gb_refl _ _⟩

set_option maxRecDepth 100000 in
set_option maxHeartbeats 4000000 in
theorem called_c (T : List Tok) (p : Option Addr) (c : Nat) (w : World) (hT : T.length ≤ 150000) (h1 : 1 < T.length) (h2 : (tkT T 1).text = [46] → 2 < T.length) (ht : TAt w p T) :
    Calls Tryz.prog 114 #[.slice p T.length c] w (fun e w' => e = .returned (.tuple #[strV (if (tkT T 1).text = [46] then (tkT T 0).text else []), strV (if (tkT T 1).text = [46] then (tkT T 2).text else (tkT T 0).text)]) ∧ w.grownBy w' none) := by
  obtain ⟨g, off, rfl, hgl, -, -, t2, -⟩ := tok_cells ht (i := 0) (by omega)
  obtain ⟨g1, off1, hp1, -, -, -, u2, -⟩ := tok_cells ht (i := 1) h1
  injection hp1 with hp1; injection hp1 with hp1 hp2; subst hp1 hp2
  have hx : (⟨(tkT T 1).text.toArray⟩ : ByteArray).toList = (tkT T 1).text := by rw [ByteArray.toList_eq]
  unfold strV at t2 u2 ⊢
  obtain ⟨m, hm⟩ : ∃ m, T.length = m := ⟨_, rfl⟩
  have y0 : decide ((0 : Int) < (m : Int)) = true := decide_eq_true (by omega)
  have y1 : decide ((1 : Int) < (m : Int)) = true := decide_eq_true (by omega)
  have z0 : decide (0 < m) = true := decide_eq_true (by omega)
  have z1 : decide (1 < m) = true := decide_eq_true (by omega)
  by_cases hd : (tkT T 1).text = [46]
  · obtain ⟨g3, off3, hp3, -, -, -, v2, -⟩ := tok_cells ht (i := 2) (h2 hd)
    injection hp3 with hp3; injection hp3 with hp3 hp4; subst hp3 hp4
    unfold strV at v2
    have h2 := h2 hd
    have y2 : decide ((2 : Int) < (m : Int)) = true := decide_eq_true (by omega)
    have z2 : decide (2 < m) = true := decide_eq_true (by omega)
    have e1 : ((⟨(tkT T 1).text.toArray⟩ : ByteArray).toList == [46]) = true := by rw [hx]; simpa using hd
    rw [if_pos hd, if_pos hd, hm]
    generalize (⟨(tkT T 1).text.toArray⟩ : ByteArray) = x1 at *
    generalize (⟨(tkT T 0).text.toArray⟩ : ByteArray) = x0 at *
    generalize (⟨(tkT T 2).text.toArray⟩ : ByteArray) = x2 at *
    rw [hm] at hT h1 h2
    clear hx ht hd hm
    go_enter Tryz.func114, Tryz.ntmps114
    go_wp2_with fail
    go_quiet (fail)
    go_wp2_with fail
    go_ret2
    exact ⟨rfl, gb_drewN (gb_refl _ _) _⟩
  · have e1 : ((⟨(tkT T 1).text.toArray⟩ : ByteArray).toList == [46]) = false := by rw [hx]; simpa using hd
    rw [if_neg hd, if_neg hd, hm]
    generalize (⟨(tkT T 1).text.toArray⟩ : ByteArray) = x1 at *
    generalize (⟨(tkT T 0).text.toArray⟩ : ByteArray) = x0 at *
    rw [hm] at hT h1
    clear hx ht hd hm h2
    go_enter Tryz.func114, Tryz.ntmps114
    go_wp2_with fail
    go_quiet (fail)
    go_wp2_with fail
    go_ret2
    exact ⟨rfl, gb_drewN (gb_refl _ _) _⟩
end Go.Proofs.YtmlcpihedmmlfaaGreatDoor
