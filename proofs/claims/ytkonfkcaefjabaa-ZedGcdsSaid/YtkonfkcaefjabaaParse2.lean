/- Reading numbers. -/
import Derived.Test.YtkonfkcaefjabaaParse1
import Derived.Test.YtkonfkcaefjabaaInt2
import Derived.Test.YtkonfkcaefjabaaShelf
namespace Go.Proofs.Ytkonfkcaefjabaa
open Go.RowKit Mx

def minus (l : List UInt8) : Bool := Lib.hasPrefix l [45]
def digs (l : List UInt8) : List UInt8 := Lib.trimPrefix l [45]
/-- The number that digits tell. -/
def valL (l : List UInt8) : Nat := l.foldl (fun a b => 10 * a + (b.toNat - 48)) 0
def parseE (l : List UInt8) : Int := if 60 < (digs l).length then 11 else if plain (digs l) = false ∨ (minus l = true ∧ digs l = [48]) then 10 else 0
def parseV (l : List UInt8) : Int := if parseE l = 0 then sgn (minus l) (valL (digs l)) else 0

def ParsePost (l : List UInt8) (w : World) (e : Ending) (w' : World) : Prop := ∃ x, e = .returned (.tuple #[x, .int .i64 (parseE l)]) ∧ IsInt w' x (parseV l) ∧ w.grownBy w' none ∧ ∀ s p n c, x = .agg #[.bool s, .slice p n c] → 0 < n → ∃ a, p = some a ∧ w.heap.size ≤ a.block

theorem plain_dig {l : List UInt8} (h : plain l = true) (j : Nat) (hj : j < l.length) : 48 ≤ l[j].toNat ∧ l[j].toNat ≤ 57 := by
  unfold plain at h
  rw [Bool.and_eq_true, List.all_eq_true] at h
  exact of_decide_eq_true (h.1 _ (List.getElem_mem hj))

theorem valL_take {l : List UInt8} {k : Nat} (hk : k < l.length) : valL (l.take (k + 1)) = 10 * valL (l.take k) + (l[k].toNat - 48) := by
  rw [List.take_add_one, List.getElem?_eq_getElem hk]
  unfold valL
  rw [List.foldl_append]; rfl

theorem cut_c (s : ByteArray) (w : World) : Calls Try.prog 38 #[.string s, .string ⟨#[45]⟩] w fun e w' => e = .returned (.tuple #[.string ⟨(digs s.data.toList).toArray⟩, .bool (minus s.data.toList)]) ∧ w' = w :=
  Try.strings_CutPrefix s ⟨#[45]⟩ w

theorem zero_int (w : World) : IsInt w (.agg #[.bool false, .slice none 0 0]) 0 :=
  ⟨false, _, 0, rfl, ⟨none, 0, 0, fun _ => 0, rfl, Nat.le_refl _, by omega, .inl rfl, fun j h => by omega, .inl rfl, rfl⟩, by simp, rfl⟩

theorem bad_parse {l : List UInt8} {w : World} {E : Int} (hE : parseE l = E) (h : E ≠ 0) : ParsePost l w (.returned (.tuple #[.agg #[.bool false, .slice none 0 0], .int .i64 E])) (w.alloc (.cells #[.bool false, .slice none 0 0] 25)) :=
  ⟨_, by rw [hE], by unfold parseV; rw [hE, if_neg h]; exact zero_int _, gb_alloc (gb_refl w none) _, fun s p n c h h0 => by simp at h; omega⟩

theorem int_some {w : World} {s : Bool} {p : Option Addr} {n c : Nat} {Z : Int} (h : IsInt w (.agg #[.bool s, .slice p n c]) Z) (hn : 0 < n) : ∃ a, p = some a ∧ a.block < w.heap.size := by
  obtain ⟨s', v, N, he, ⟨p', n', c', f, rfl, _, _, hat, _⟩, _⟩ := h
  simp at he
  obtain ⟨rfl, rfl, rfl, rfl⟩ := he
  rcases hat with h | ⟨g, off, rfl, hg, _⟩
  · omega
  · exact ⟨_, rfl, hg⟩

def SgnPost (p : Option Addr) (Z : Int) (w : World) (e : Ending) (w' : World) : Prop := ∃ s3 p3 n3 c3, e = .returned (.agg #[.bool s3, .slice p3 n3 c3]) ∧ IsInt w' (.agg #[.bool s3, .slice p3 n3 c3]) Z ∧ w.grownBy w' none ∧ (0 < n3 → p3 = p)

theorem sgn_fin {b s : Bool} {p p' : Option Addr} {m cap' : Nat} {Z : Int} {w w' : World} (h : IntPost Z w (.returned (.agg #[.bool (s && b), .slice p' m cap'])) w') (q7 : 0 < m → p' = p) : SgnPost p Z w (.returned (.agg #[.bool (s && b), .slice p' m cap'])) w' := by
  obtain ⟨x, e, h1, h2⟩ := h
  injection e with e
  subst e
  exact ⟨_, _, _, _, rfl, h1, h2, q7⟩

set_option maxHeartbeats 1000000 in
theorem signed_p (s : Bool) (p : Option Addr) (n cap : Nat) (f : Nat → Nat) (w : World) (hn : n ≤ cap) (hc : cap ≤ maxLen) (h : At .u64 w p n f) (hf : ∀ j, j < n → f j < Bw) :
    Calls Try.prog 41 #[.bool s, .slice p n cap] w (SgnPost p (sgn s (V Bw f 0 n)) w) := by
  have HT := Lib.hid (fun w1 (hg : w.grownBy w1 none) => trim_c p n cap f w1 hn hc (h.grown hg (by simp)))
  have HH := Lib.hid h; have HF := Lib.hid hf
  clear h hf
  cases s
  · go_enter Try.func41, Try.ntmps41
    go_wp2_with (go_at_call 61; refine (HT.out _ ?_).mono ?_; (exact World.grownBy_alloc w _ none); rintro e w1 ⟨m, p', cap', rfl, q1, q2, q3, q4, q5, q6, q7, rfl⟩; have Q4 := Lib.hid q4; have Q5 := Lib.hid q5; have Q7 := Lib.hid q7; clear q4 q5 q6 q7)
    have hfin := sgn_fin (signed_fin (s := false) q1 q2 (Nat.le_trans q3 hc) HH.out HF.out Q4.out Q5.out Q7.out) Q7.out
    have HFIN := Lib.hid hfin
    clear hfin
    exact bodyPost_ret (v := .agg #[.bool (false && decide (0 < m)), .slice p' m cap']) (by simp [results, Try.results41, go_sem]) rfl HFIN.out
  · go_enter Try.func41, Try.ntmps41
    go_wp2_with (go_at_call 61; refine (HT.out _ ?_).mono ?_; (exact World.grownBy_alloc w _ none); rintro e w1 ⟨m, p', cap', rfl, q1, q2, q3, q4, q5, q6, q7, rfl⟩; have Q4 := Lib.hid q4; have Q5 := Lib.hid q5; have Q7 := Lib.hid q7; clear q4 q5 q6 q7)
    have hfin := sgn_fin (signed_fin (s := true) q1 q2 (Nat.le_trans q3 hc) HH.out HF.out Q4.out Q5.out Q7.out) Q7.out
    have HFIN := Lib.hid hfin
    clear hfin
    exact bodyPost_ret (v := .agg #[.bool (true && decide (0 < m)), .slice p' m cap']) (by simp [results, Try.results41, go_sem]) rfl HFIN.out

/-- What lies behind the rounds. -/
def PRel (l : List UInt8) (w : World) (k : Nat) (v : Value) (wr : World) : Prop :=
  ∃ (mm : Nat) (f : Nat → Nat), mm ≤ k ∧ Own .u64 40 wr (w.heap.size + 1) v mm f ∧ (∀ j, j < mm → f j < Bw) ∧ V Bw f 0 mm = valL (l.take k) ∧ Below (w.heap.size + 1) (w.alloc (.cells #[.bool false, .slice none 0 0] 25)) wr

set_option maxHeartbeats 2000000 in
theorem Parse_c (s : ByteArray) (w : World) : Calls Try.prog 12 #[.string s] w (ParsePost s.data.toList w) := by
  obtain ⟨d, hd⟩ : ∃ d : ByteArray, d = ⟨(digs s.data.toList).toArray⟩ := ⟨_, rfl⟩
  have hdl : d.data.toList = digs s.data.toList := by rw [hd]
  have hds : d.size = (digs s.data.toList).length := by rw [← hdl]; exact (Array.length_toList).symm
  obtain ⟨m, hm⟩ : ∃ m, minus s.data.toList = m := ⟨_, rfl⟩
  obtain ⟨n, hn⟩ : ∃ n, (digs s.data.toList).length = n := ⟨_, rfl⟩
  rw [hn] at hds
  have HD := Lib.hid hdl; have HM := Lib.hid hm; have HNN := Lib.hid hn
  have hcut : ∀ w, Calls Try.prog 38 #[.string s, .string ⟨#[45]⟩] w fun e w' => e = .returned (.tuple #[.string d, .bool m]) ∧ w' = w := by
    intro w; rw [hd, ← hm]; exact cut_c s w
  have HCUT := Lib.hid hcut
  clear hcut hd hdl hm hn
  by_cases h60 : 60 < n
  · have d1 : decide ((60 : Int) < n) = true := decide_eq_true (by omega)
    have hE : parseE s.data.toList = 11 := by unfold parseE; rw [HNN.out, if_pos h60]
    have HE := Lib.hid hE
    clear hE
    go_enter Try.func12, Try.ntmps12
    go_wp2_with (go_at_call 38; refine (HCUT.out _).mono ?_; rintro e w1 ⟨rfl, rfl⟩)
    exact bodyPost_ret (v := .tuple #[.agg #[.bool false, .slice none 0 0], .int .i64 11]) (by simp [results, Try.results12, go_sem]) rfl (bad_parse HE.out (by decide))
  · have d1 : decide ((60 : Int) < n) = false := decide_eq_false (by omega)
    obtain ⟨pb, hpb⟩ : ∃ pb, plain (digs s.data.toList) = pb := ⟨_, rfl⟩
    have HPB := Lib.hid hpb
    have hpl : ∀ w, Calls Try.prog 39 #[.string d] w (fun e w' => e = .returned (.bool pb) ∧ w' = w) := by
      intro w
      have := plain_c d w (by rw [HD.out, HNN.out]; omega)
      rwa [HD.out, hpb] at this
    have HPL := Lib.hid hpl
    have hE : parseE s.data.toList = if pb = false ∨ (m = true ∧ digs s.data.toList = [48]) then 10 else 0 := by unfold parseE; rw [HNN.out, if_neg h60, hpb, HM.out]
    have HE := Lib.hid hE
    clear hE hpl hpb
    cases pb
    · have hE : parseE s.data.toList = 10 := by rw [HE.out, if_pos (.inl rfl)]
      have HE := Lib.hid hE
      clear hE
      go_enter Try.func12, Try.ntmps12
      go_wp2_with (first
        | (go_at_call 38; refine (HCUT.out _).mono ?_; rintro e w1 ⟨rfl, rfl⟩)
        | (go_at_call 39; refine (HPL.out _).mono ?_; rintro e w1 ⟨rfl, rfl⟩))
      exact bodyPost_ret (v := .tuple #[.agg #[.bool false, .slice none 0 0], .int .i64 10]) (by simp [results, Try.results12, go_sem]) rfl (bad_parse HE.out (by decide))
    · by_cases h0 : m = true ∧ digs s.data.toList = [48]
      · obtain ⟨h01, h0⟩ := h0
        have hE : parseE s.data.toList = 10 := by rw [HE.out, if_pos (.inr ⟨h01, h0⟩)]
        subst h01
        have HE2 := Lib.hid hE
        have c1 : (d.toList == [48]) = true := by rw [toList_data, HD.out, h0]; rfl
        clear hE h0 HE
        go_enter Try.func12, Try.ntmps12
        go_wp2_with (first
          | (go_at_call 38; refine (HCUT.out _).mono ?_; rintro e w1 ⟨rfl, rfl⟩)
          | (go_at_call 39; refine (HPL.out _).mono ?_; rintro e w1 ⟨rfl, rfl⟩))
        exact bodyPost_ret (v := .tuple #[.agg #[.bool false, .slice none 0 0], .int .i64 10]) (by simp [results, Try.results12, go_sem]) rfl (bad_parse HE2.out (by decide))
      · have hE : parseE s.data.toList = 0 := by rw [HE.out, if_neg (by rintro (h | h); · cases h
                                                                        · exact h0 h)]
        have HE2 := Lib.hid hE
        have hp1 : plain (digs s.data.toList) = true := HPB.out
        have hdig := plain_dig hp1
        have HDIG := Lib.hid hdig
        have hstart : PRel (digs s.data.toList) w 0 (.slice none 0 0) (w.alloc (.cells #[.bool false, .slice none 0 0] 25)) :=
          ⟨0, fun _ => 0, Nat.le_refl _, ⟨rfl, .inl ⟨rfl, rfl⟩⟩, fun j h => by omega, by simp [V, valL], Below.refl _ _⟩
        have HST := Lib.hid hstart
        clear hE HE hp1 hdig hstart
        cases m
        · clear h0
          go_enter Try.func12, Try.ntmps12
          go_wp2_with (first
            | (go_at_call 38; refine (HCUT.out _).mono ?_; rintro e w1 ⟨rfl, rfl⟩)
            | (go_at_call 39; refine (HPL.out _).mono ?_; rintro e w1 ⟨rfl, rfl⟩))
          go_loopw [6, 30] (fun v i wr => ∃ k : Nat, k ≤ n ∧ i = .int .i64 k ∧ Hid (PRel (digs s.data.toList) w k v wr)) (fun _ i _ => n - (intOf i).toNat)
          case atStart => exact ⟨0, by omega, rfl, HST⟩
          case round =>
            clear HST
            obtain ⟨k, hk, rfl, HR⟩ := hrel
            by_cases hlt : k < n
            · obtain ⟨mm, f, h1, h2, h3, h4, h5⟩ := HR.out
              have hkl : k < (digs s.data.toList).length := by rw [HNN.out]; exact hlt
              obtain ⟨b, hbv⟩ : ∃ b : Nat, ((digs s.data.toList)[k]'hkl).toNat = b := ⟨_, rfl⟩
              have hix := idx_run d k b (by rw [HD.out]; exact hkl) (by rw [← hbv]; simp only [HD.out])
              have hb := HDIG.out k hkl
              rw [hbv] at hb
              have hv := valL_take hkl
              rw [hbv, ← h4] at hv
              have hsz := h5.size
              have HTP := Lib.hid (timesPlus_c (w.heap.size + 1) u6 mm 10 (b - 48) f wr h2 h3 (by unfold Bw; omega) (by unfold Bw; omega) (by omega) (by simpa using hsz))
              have HV := Lib.hid hv; have HB := Lib.hid h5
              have hb8 : IntKind.u8.wrap ((b : Int) - 48) = ((b - 48 : Nat) : Int) := by rw [IntKind.wrap_u8]; omega
              clear h2 h3 h4 h5 hv hbv hkl hsz
              go_wp2_with (go_at_call 40; refine HTP.out.mono ?_; rintro e w2 ⟨v', m', f', rfl, o1, o2, o3, o4, o5⟩; have O1 := Lib.hid o1; have O3 := Lib.hid o3; have O4 := Lib.hid o4; have O5 := Lib.hid o5; clear o1 o3 o4 o5)
              go_roundw
              case rel => exact ⟨k + 1, by omega, by go_num, m', f', by omega, O1.out, O3.out, by rw [O4.out, HV.out], HB.out.trans O5.out⟩
              case measure => simp [intOf]; omega
            · obtain rfl : k = n := by omega
              obtain ⟨mm, f, h1, h2, h3, h4, h5⟩ := HR.out
              obtain ⟨p, cap, rfl, hmc, hcm, hpa⟩ : ∃ p cap, u6 = .slice p mm cap ∧ mm ≤ cap ∧ cap ≤ maxLen ∧ ∀ a, p = some a → w.heap.size + 1 ≤ a.block := by
                rcases h2.shape with ⟨rfl, rfl⟩ | ⟨g, cap, rfl, hbg, _, hnc, hcm⟩
                · exact ⟨_, _, rfl, by omega, by omega, fun a h => by cases h⟩
                · exact ⟨_, _, rfl, hnc, hcm, fun a h => by cases h; exact hbg⟩
              rw [List.take_of_length_le (by rw [HNN.out]; omega)] at h4
              have HSG := Lib.hid (signed_p false p mm cap f wr hmc hcm h2.at.2 h3)
              have HV := Lib.hid h4; have HB := Lib.hid h5
              clear h2 h3 h4 h5 HR
              go_wp2_with (go_at_call 41; refine HSG.out.mono ?_; rintro e w3 ⟨s3, p3, n3, c3, rfl, hx, hg, hp3⟩; have HX := Lib.hid hx; have HP3 := Lib.hid hp3; clear hp3; have hgg := gb_trans (below_gb (row := none) (a := w.alloc (.cells #[.bool false, .slice none 0 0] 25)) (by simpa using HB.out)) hg; have HG3 := Lib.hid hgg; obtain ⟨hcr3, hfr3⟩ := bcell hgg; have hz3 : w.heap.size < w3.heap.size := (by have := hgg.size; simp at this; omega); clear hx hg hgg)
              have hb := top1 w (.cells #[.bool false, .slice none 0 0] 25)
              obtain ⟨x, e1, e2, e3⟩ := ret_box hb HG3.out HX.out (gb_alloc (gb_refl w none) _) (Nat.le_refl _)
              injection e1 with e1; subst e1
              obtain ⟨rc0, rc1⟩ := ret_cells (s := s3) (p := p3) (n := n3) (c := c3) hb HG3.out
              refine bodyPost_ret (v := .tuple #[.agg #[.bool s3, .slice p3 n3 c3], .int .i64 0]) (by simp [results, Try.results12, go_sem, rc0, rc1]) rfl ⟨_, by rw [HE2.out], ?_, e3, ?_⟩
              · unfold parseV
                rw [if_pos HE2.out, HM.out, ← HV.out]; exact e2
              · intro s p' n c h h0
                simp at h
                obtain ⟨rfl, rfl, rfl, rfl⟩ := h
                obtain ⟨a, ha, _⟩ := int_some e2 h0
                refine ⟨a, ha, ?_⟩
                have := hpa a (by rw [← HP3.out h0]; exact ha)
                omega
        · have c1 : (d.toList == [48]) = false := by rw [toList_data, HD.out]; exact beq_eq_false_iff_ne.2 (fun h => h0 ⟨rfl, h⟩)
          clear h0
          go_enter Try.func12, Try.ntmps12
          go_wp2_with (first
            | (go_at_call 38; refine (HCUT.out _).mono ?_; rintro e w1 ⟨rfl, rfl⟩)
            | (go_at_call 39; refine (HPL.out _).mono ?_; rintro e w1 ⟨rfl, rfl⟩))
          go_loopw [6, 30] (fun v i wr => ∃ k : Nat, k ≤ n ∧ i = .int .i64 k ∧ Hid (PRel (digs s.data.toList) w k v wr)) (fun _ i _ => n - (intOf i).toNat)
          case atStart => exact ⟨0, by omega, rfl, HST⟩
          case round =>
            clear HST
            obtain ⟨k, hk, rfl, HR⟩ := hrel
            by_cases hlt : k < n
            · obtain ⟨mm, f, h1, h2, h3, h4, h5⟩ := HR.out
              have hkl : k < (digs s.data.toList).length := by rw [HNN.out]; exact hlt
              obtain ⟨b, hbv⟩ : ∃ b : Nat, ((digs s.data.toList)[k]'hkl).toNat = b := ⟨_, rfl⟩
              have hix := idx_run d k b (by rw [HD.out]; exact hkl) (by rw [← hbv]; simp only [HD.out])
              have hb := HDIG.out k hkl
              rw [hbv] at hb
              have hv := valL_take hkl
              rw [hbv, ← h4] at hv
              have hsz := h5.size
              have HTP := Lib.hid (timesPlus_c (w.heap.size + 1) u6 mm 10 (b - 48) f wr h2 h3 (by unfold Bw; omega) (by unfold Bw; omega) (by omega) (by simpa using hsz))
              have HV := Lib.hid hv; have HB := Lib.hid h5
              have hb8 : IntKind.u8.wrap ((b : Int) - 48) = ((b - 48 : Nat) : Int) := by rw [IntKind.wrap_u8]; omega
              clear h2 h3 h4 h5 hv hbv hkl hsz
              go_wp2_with (go_at_call 40; refine HTP.out.mono ?_; rintro e w2 ⟨v', m', f', rfl, o1, o2, o3, o4, o5⟩; have O1 := Lib.hid o1; have O3 := Lib.hid o3; have O4 := Lib.hid o4; have O5 := Lib.hid o5; clear o1 o3 o4 o5)
              go_roundw
              case rel => exact ⟨k + 1, by omega, by go_num, m', f', by omega, O1.out, O3.out, by rw [O4.out, HV.out], HB.out.trans O5.out⟩
              case measure => simp [intOf]; omega
            · obtain rfl : k = n := by omega
              obtain ⟨mm, f, h1, h2, h3, h4, h5⟩ := HR.out
              obtain ⟨p, cap, rfl, hmc, hcm, hpa⟩ : ∃ p cap, u6 = .slice p mm cap ∧ mm ≤ cap ∧ cap ≤ maxLen ∧ ∀ a, p = some a → w.heap.size + 1 ≤ a.block := by
                rcases h2.shape with ⟨rfl, rfl⟩ | ⟨g, cap, rfl, hbg, _, hnc, hcm⟩
                · exact ⟨_, _, rfl, by omega, by omega, fun a h => by cases h⟩
                · exact ⟨_, _, rfl, hnc, hcm, fun a h => by cases h; exact hbg⟩
              rw [List.take_of_length_le (by rw [HNN.out]; omega)] at h4
              have HSG := Lib.hid (signed_p true p mm cap f wr hmc hcm h2.at.2 h3)
              have HV := Lib.hid h4; have HB := Lib.hid h5
              clear h2 h3 h4 h5 HR
              go_wp2_with (go_at_call 41; refine HSG.out.mono ?_; rintro e w3 ⟨s3, p3, n3, c3, rfl, hx, hg, hp3⟩; have HX := Lib.hid hx; have HP3 := Lib.hid hp3; clear hp3; have hgg := gb_trans (below_gb (row := none) (a := w.alloc (.cells #[.bool false, .slice none 0 0] 25)) (by simpa using HB.out)) hg; have HG3 := Lib.hid hgg; obtain ⟨hcr3, hfr3⟩ := bcell hgg; have hz3 : w.heap.size < w3.heap.size := (by have := hgg.size; simp at this; omega); clear hx hg hgg)
              have hb := top1 w (.cells #[.bool false, .slice none 0 0] 25)
              obtain ⟨x, e1, e2, e3⟩ := ret_box hb HG3.out HX.out (gb_alloc (gb_refl w none) _) (Nat.le_refl _)
              injection e1 with e1; subst e1
              obtain ⟨rc0, rc1⟩ := ret_cells (s := s3) (p := p3) (n := n3) (c := c3) hb HG3.out
              refine bodyPost_ret (v := .tuple #[.agg #[.bool s3, .slice p3 n3 c3], .int .i64 0]) (by simp [results, Try.results12, go_sem, rc0, rc1]) rfl ⟨_, by rw [HE2.out], ?_, e3, ?_⟩
              · unfold parseV
                rw [if_pos HE2.out, HM.out, ← HV.out]; exact e2
              · intro s p' n c h h0
                simp at h
                obtain ⟨rfl, rfl, rfl, rfl⟩ := h
                obtain ⟨a, ha, _⟩ := int_some e2 h0
                refine ⟨a, ha, ?_⟩
                have := hpa a (by rw [← HP3.out h0]; exact ha)
                omega
end Go.Proofs.Ytkonfkcaefjabaa
