/- Lemmas. -/
import Derived.Shelf.SlicesQ.Reverse
import Derived.Test.YtccokidhngdjnaaGreatDoorP16
set_option linter.unusedVariables false
set_option linter.unusedSimpArgs false
namespace Go.Proofs.YtccokidhngdjnaaGreatDoor

theorem tok_whole (l : List UInt8) (p : Nat) : (tokE l p).lead ++ (tokE l p).text = l.take (stepE l) := by
  unfold tokE stepE; rw [List.take_add]

theorem wholeL_cons (t : Tok) (l : List Tok) : wholeL (t :: l) = t.lead ++ t.text ++ wholeL l := rfl

theorem end_whole {l : List UInt8} {p : Nat} (h5 : (tokE l p).kind = 5) : stepE l = l.length ∧ (tokE l p).text = [] := by
  have h1 := ((firstE_kind (l.drop (sk false l))).2).1 h5
  have h2 : l.length ≤ sk false l := by
    have := congrArg List.length h1; rw [List.length_drop, List.length_nil] at this; omega
  have h3 := sk_le l false
  constructor
  · unfold stepE; rw [h1]; simp [firstE]; omega
  · unfold tokE; rw [h1]; rfl

theorem text_pos {l : List UInt8} {p : Nat} (h : wrongE (tokE l p).kind (tokE l p).text = 0) (h5 : (tokE l p).kind ≠ 5) : (tokE l p).text ≠ [] := by
  have h0 : (firstE (l.drop (sk false l))).1 ≠ 0 := fun e => by
    unfold wrongE at h
    rw [if_pos (.inl e)] at h; cases h
  have h1 := firstE_pos h5 h0
  have h2 := firstE_le (l.drop (sk false l))
  intro e
  have h3 : ((l.drop (sk false l)).take (firstE (l.drop (sk false l))).2).length = ([] : List UInt8).length := congrArg List.length e
  rw [List.length_take, List.length_nil, Nat.min_eq_left h2] at h3
  omega

theorem whole_lexG : ∀ (f : Nat) (l : List UInt8) (p : Nat), l.length < f → (lexG f l p).2.1 = 0 → wholeL (lexG f l p).1 = l
  | 0, l, p, h, _ => by omega
  | f + 1, l, p, h, h0 => by
    by_cases hw : wrongE (tokE l p).kind (tokE l p).text = 0
    · by_cases h5 : (tokE l p).kind = 5
      · rw [lexG_end hw h5, wholeL_cons, tok_whole, (end_whole h5).1, List.take_length]; simp [wholeL]
      · rw [lexG_more hw h5] at h0 ⊢
        have h1 := stepE_pos hw h5
        have h2 := stepE_le l
        rw [wholeL_cons, tok_whole, whole_lexG f (l.drop (stepE l)) _ (by rw [List.length_drop]; omega) h0, List.take_append_drop]
    · rw [lexG_fault hw] at h0
      exact absurd h0 hw

theorem whole_all {l : List UInt8} (h : (allE l).2.1 = 0) : wholeL (allE l).1 = l := whole_lexG _ l 0 (by omega) h

/-- Each token stands at its place; the end alone is empty, and the last one. -/
def PlaceE (p : Nat) (L : List Tok) : Prop := ∀ i t, L[i]? = some t → t.pos = p + (wholeL (L.take i)).length + t.lead.length ∧ (t.kind = 5 ↔ i + 1 = L.length) ∧ (t.text = [] ↔ t.kind = 5)

theorem place_lexG : ∀ (f : Nat) (l : List UInt8) (p : Nat), l.length < f → (lexG f l p).2.1 = 0 → PlaceE p (lexG f l p).1 ∧ (lexG f l p).1 ≠ []
  | 0, l, p, h, _ => by omega
  | f + 1, l, p, h, h0 => by
    by_cases hw : wrongE (tokE l p).kind (tokE l p).text = 0
    · have hlead : (tokE l p).lead.length = sk false l := by
        unfold tokE; simp only [List.length_take]; have := sk_le l false; omega
      by_cases h5 : (tokE l p).kind = 5
      · rw [lexG_end hw h5]
        refine ⟨fun i t hi => ?_, by simp⟩
        match i, hi with
        | 0, hi =>
          simp at hi; subst hi
          refine ⟨?_, by simp [h5], by simp [h5, (end_whole h5).2]⟩
          rw [hlead]; simp [wholeL]; rfl
      · rw [lexG_more hw h5] at h0 ⊢
        have h1 := stepE_pos hw h5
        have h2 := stepE_le l
        obtain ⟨ih, hne⟩ := place_lexG f (l.drop (stepE l)) (p + stepE l) (by rw [List.length_drop]; omega) h0
        refine ⟨fun i t hi => ?_, by simp⟩
        match i, hi with
        | 0, hi =>
          simp at hi; subst hi
          have ht := text_pos hw h5
          refine ⟨?_, ?_, by simp [h5, ht]⟩
          · rw [hlead]; simp [wholeL]; rfl
          · simp [h5]
            intro e; exact hne e
        | i + 1, hi =>
          obtain ⟨a1, a2, a3⟩ := ih i t (by simpa using hi)
          refine ⟨?_, by rw [a2]; simp, a3⟩
          rw [a1, List.take_succ_cons, wholeL_cons, tok_whole, List.length_append, List.length_take, Nat.min_eq_left h2]
          omega
    · rw [lexG_fault hw] at h0
      exact absurd h0 hw

theorem place_all {l : List UInt8} (h : (allE l).2.1 = 0) : PlaceE 0 (allE l).1 ∧ (allE l).1 ≠ [] := place_lexG _ l 0 (by omega) h
theorem len_all {l : List UInt8} (h : (allE l).2.1 = 0) : (allE l).1.length ≤ l.length + 1 := by
  have h1 := (place_all h).1
  have h2 : ∀ (L : List Tok), (∀ i t, L[i]? = some t → (t.text = [] ↔ i + 1 = L.length)) → L.length ≤ (wholeL L).length + 1 := by
    intro L hL
    have key : ∀ (L : List Tok), (∀ t ∈ L, t.text ≠ []) → L.length ≤ (wholeL L).length := by
      intro L
      induction L with
      | nil => intro _; exact Nat.le_refl _
      | cons t L ih =>
        intro hh
        have a := ih (fun t ht => hh t (List.mem_cons_of_mem _ ht))
        have b := List.length_pos_iff.2 (hh t (List.mem_cons_self ..))
        rw [wholeL_cons]; simp only [List.length_cons, List.length_append]; omega
    have h3 := key (L.take (L.length - 1)) (fun t ht => by
      obtain ⟨i, hi⟩ := List.getElem?_of_mem ht
      rw [List.getElem?_take] at hi
      split at hi
      · rename_i hlt
        intro e
        have := (hL i t hi).1 e
        omega
      · cases hi)
    have h4 := wholeL_take L (L.length - 1)
    rw [List.length_take] at h3
    omega
  have h5 := h2 (allE l).1 (fun i t hi => by obtain ⟨_, a, b⟩ := h1 i t hi; rw [b, a])
  rw [whole_all h] at h5; exact h5
open Go.RowKit

def Self (b : Nat) : Nat → Prop := fun k => k = b
def EndT (T : List Tok) : Prop := ∀ (i : Nat) (t : Tok), T[i]? = some t → (t.kind = 5 ↔ i + 1 = T.length)

theorem mine (b : Nat) : Self b b := rfl
theorem fr2_drew {X : Nat → Prop} {a b : World} (h : Fr2 X a b) : Fr2 X a b.drew := ⟨h.os, h.tape, h.output, h.size, h.block⟩

section
variable {T : List Tok}
theorem mul_kind {s : St} (h : isMul T s = true) : (tokQ T s).kind ≠ 5 := by
  unfold isMul at h
  simp only [Bool.or_eq_true] at h
  rcases h with (h | h) | h <;> exact (is_kind h).1
theorem add_kind {s : St} (h : isAdd T s = true) : (tokQ T s).kind ≠ 5 := by
  unfold isAdd at h
  simp only [Bool.or_eq_true] at h
  rcases h with h | h <;> exact (is_kind h).1
theorem cmp_kind {s : St} (h : isCmp T s = true) : (tokQ T s).kind ≠ 5 := by
  unfold isCmp at h
  simp only [Bool.or_eq_true] at h
  rcases h with ((((h | h) | h) | h) | h) | h <;> exact (is_kind h).1
end
theorem fail_e (T : List Tok) {m : Nat} (hm : m ≠ 0) (s : St) : (failQ T m s).e ≠ 0 := by
  unfold failQ; split
  · exact hm
  · assumption

def setIn (v : Bool) (s : St) : St := { s with inn := v }
section
variable (T : List Tok) (ex : St → RQ)
def typB (a : RQ) : RQ :=
  if isQ T [105, 110, 116] a.2 = true ∨ isQ T [98, 111, 111, 108] a.2 = true then (a.1 ++ ([32, 40, 53] ++ (leafQ T a.2).1 ++ [41]), (leafQ T a.2).2)
  else (a.1, failQ T 22 a.2)
def typC (b : RQ) : RQ :=
  if isQ T [123] b.2 = true then
    let f := ex (setIn true (leafQ T b.2).2)
    let m := mustQ T [125] (setIn false f.2)
    (b.1 ++ ([32, 40, 54] ++ (leafQ T b.2).1 ++ f.1 ++ m.1 ++ [41]), m.2)
  else b
def typedQ (s : St) : RQ := typC T ex (typB T (mustQ T [58] s))
def parQ (s : St) : RQ :=
  let k := kindQ T 1 s
  let t := typedQ T ex k.2
  ([32, 40, 52] ++ k.1 ++ t.1 ++ [41], t.2)
def paramsQ (s : St) : RQ := partsQ T (parQ T ex) (fuelQ T (parQ T ex s).2) 1 (parQ T ex s)
def defA (s : St) : RQ := if isQ T [112, 117, 98] s = true then ([32, 40, 51] ++ (leafQ T s).1, (leafQ T s).2) else ([32, 40, 51], s)
def defB (p : RQ) : RQ :=
  let u := mustQ T [102, 117, 110] p.2
  let k := kindQ T 1 u.2
  let o := mustQ T [40] k.2
  (p.1 ++ (u.1 ++ k.1 ++ o.1), o.2)
def defC (o : RQ) : RQ := if o.2.e = 0 ∧ isQ T [41] o.2 = false then (o.1 ++ (paramsQ T ex o.2).1, (paramsQ T ex o.2).2) else o
def defD (r : RQ) : RQ :=
  let c := mustQ T [41] r.2
  let t := typedQ T ex c.2
  let q := mustQ T [61] t.2
  let x := ex q.2
  let m := mustQ T [59] x.2
  (r.1 ++ (c.1 ++ t.1 ++ q.1) ++ x.1 ++ m.1 ++ [41], m.2)
def defQ (s : St) : RQ := defD T ex (defC T ex (defB T (defA T s)))
def impStep (r : RQ) : RQ :=
  let l := leafQ T r.2
  let k := kindQ T 1 l.2
  let m := mustQ T [59] k.2
  (r.1 ++ ([32, 40, 50] ++ l.1 ++ k.1 ++ m.1 ++ [41]), m.2)
/-- Imports, or definitions: none where there are too many. -/
def manyQ (c : St → Bool) (step : RQ → RQ) (most : Nat) : Nat → Nat → RQ → Bool × RQ
  | 0, _, r => (true, r)
  | f + 1, k, r => if c r.2 = true then (if k = most then (false, ([], failQ T 15 r.2)) else manyQ c step most f (k + 1) (step r)) else (true, r)
def isDef (s : St) : Bool := isQ T [112, 117, 98] s || isQ T [102, 117, 110] s
def importsQ (r : RQ) : Bool × RQ := manyQ T (isQ T [105, 109, 112, 111, 114, 116]) (impStep T) 16 (fuelQ T r.2) 0 r
def defStep (r : RQ) : RQ := (r.1 ++ (defQ T ex r.2).1, (defQ T ex r.2).2)
def defsQ (r : RQ) : Bool × RQ := manyQ T (isDef T) (defStep T ex) 64 (fuelQ T r.2) 0 r
def endQ (r : RQ) : RQ := (r.1 ++ (kindQ T 5 r.2).1 ++ [41], (kindQ T 5 r.2).2)
def programQ (s : St) : RQ :=
  if (importsQ T ([40, 49], s)).1 = false then (importsQ T ([40, 49], s)).2
  else if (defsQ T ex (importsQ T ([40, 49], s)).2).1 = false then (defsQ T ex (importsQ T ([40, 49], s)).2).2
  else endQ T (defsQ T ex (importsQ T ([40, 49], s)).2).2
def aloneQ (s : St) : RQ :=
  let x := ex (setIn true s)
  let k := kindQ T 5 x.2
  ([40, 49, 56] ++ x.1 ++ k.1 ++ [41], k.2)
end

theorem end_all {l : List UInt8} (h : (allE l).2.1 = 0) : EndT (allE l).1 ∧ (allE l).1 ≠ [] := ⟨fun i t ht => ((place_all h).1 i t ht).2.1, (place_all h).2⟩

def startQ : St := ⟨0, false, 0, 0⟩
def resQ (r : RQ) : List UInt8 × Nat × Nat := if r.2.e = 0 then (r.1, 0, 0) else ([], r.2.e, r.2.pos)
def treeQ (T : List Tok) (D : Nat) (f : Bool) : RQ := if f = true then aloneQ T (nxQ T D D).expr startQ else programQ T (nxQ T D D).expr startQ
/-- What the reference answers. -/
def parseQ (l : List UInt8) (D : Nat) (f : Bool) : List UInt8 × Nat × Nat :=
  if 65536 < l.length then ([], 11, 0)
  else if (allE l).2.1 ≠ 0 then ([], (allE l).2.1, (allE l).2.2)
  else resQ (treeQ (allE l).1 D f)
end Go.Proofs.YtccokidhngdjnaaGreatDoor
namespace Go.Proofs.YtccokidhngdjnaaGreatDoor
open Go.RowKit

theorem LaidW.same {S : Nat → Prop} {w w' : World} (h : LaidW w) (hf : Fr2 (fun k => ¬ S k) w w') (hS : S 3) (hs : 3 < w.heap.size) : LaidW w' := fun j l hj => by
  rw [World.cell?_of_block (w := w) (hf.block _ hs (fun e => e hS))]; exact h j l hj
theorem argsP_len : ∀ l : List Sx, (argsP l).length ≤ 2 * l.length
  | [] => by simp [argsP]
  | [x] => by simp [argsP]
  | x :: y :: l => by
    have := argsP_len (y :: l)
    simp only [argsP, List.length_cons] at this ⊢; omega
theorem bareP_len {op : Int} {nm md : List UInt8} {nu : Int} {ys : Bool} {ks : List Sx} {ps : Int} (hn : countB op ks.length = true) : (bareP (.mk op nm md nu ys ks ps)).length ≤ 1000 := by
  have ha := argsP_len ks
  simp only [bareP]
  by_cases e24 : op = 24
  · unfold countB at hn
    rw [if_neg (by omega), if_neg (by omega), if_neg (by omega), if_neg (by omega)] at hn
    have hn := of_decide_eq_true hn
    subst e24
    rw [if_neg (by omega), if_neg (by omega), if_neg (by omega), if_neg (by omega), if_neg (by omega), if_neg (by omega), if_neg (by omega), if_neg (by omega), if_neg (by omega), if_pos rfl]
    simp only [List.length_append, List.length_cons, List.length_nil]
    split <;> simp <;> omega
  · rw [if_neg e24]
    repeat' (first | (simp only [List.length_cons, List.length_nil]; omega) | split)
set_option maxRecDepth 100000 in
set_option maxHeartbeats 16000000 in
theorem open_c9 (S F : Nat → Prop) (B b : Nat) (rows : List (List Value)) (fg fo least : Nat) (x : Sx) (q : List Value) (w : World) (h : WrAt S B b w rows) (hl : rows.length ≤ 600000) (hF : ∀ k, F k → S k) (hSg : S 3) (hla : LaidW w)
    (hx : SAt F w x q) (hSf : S fg) (hc : ∀ i v, q[i]? = some v → w.cell? ⟨fg, fo + i, none⟩ = some v)
    (h1 : 1 ≤ x.op) (h2 : x.op ≤ 24) (hn : countB x.op x.ks.length = true) (hok : match x with | .mk _ nm md nu _ _ _ => nm.length ≤ 60000 ∧ md.length ≤ 60000 ∧ nu.natAbs < Zd.Lim) :
    Calls Tryz.prog 51 #[.pointer (some ⟨b, 0, none⟩), .pointer (some ⟨fg, fo, none⟩), .int .i64 least] w (BarePost S F B b rows (openP x least) w) := by
  have HHS : Hid (∀ k, S k → k < w.heap.size) := Lib.hid (by obtain ⟨v, -, -, -, -, -, -, hh⟩ := h; exact hh)
  have c0 : w.cell? ⟨fg, fo, none⟩ = some (.int .i64 x.op) := by
    cases x with
    | mk op nm md nu ys ks ps =>
      have hx2 := hx
      simp only [SAt] at hx2
      obtain ⟨s, pw, nw, cw, pk, ck, kr, rfl, -⟩ := hx2
      exact hc 0 _ rfl
  have HB : Hid (∀ R W, Fr2 (fun k => ¬ S k) w W → WrAt S B b W R → R.length ≤ 700000 → Calls Tryz.prog 74 #[.pointer (some ⟨b, 0, none⟩), .pointer (some ⟨fg, fo, none⟩)] W (BarePost S F B b R (bareP x) W)) := Lib.hid (fun R W hf hW hR => by
    cases x with
    | mk op nm md nu ys ks ps =>
      exact bare_c9 S F B b R fg fo op nm md nu ys ks ps q W hW hR hF hSg (hla.same hf hSg (HHS.out _ hSg)) (hx.same hf (fun k hk e => e (hF k hk))) hSf (fun i v hi => by rw [World.cell?_of_block (w := w) (hf.block _ (HHS.out _ hSf) (fun e => e hSf))]; exact hc i v hi) h1 h2 hn hok.1 hok.2.1 hok.2.2)
  have HLV := Lib.hid (fun W => level_c x.op h1 h2 W)
  have HPUT := Lib.hid (fun rows s W h h2 => put_c9 S B b rows s W h h2)
  have HW := Lib.hid h; have HL := Lib.hid hl; have HF := Lib.hid hF
  have HBL : Hid ((bareP x).length ≤ 1000) := Lib.hid (by cases x with | mk op nm md nu ys ks ps => exact bareP_len hn)
  obtain ⟨P, hP⟩ : ∃ P, bareP x = P := ⟨_, rfl⟩
  obtain ⟨OP, hOP⟩ : ∃ OP, openP x least = OP := ⟨_, rfl⟩
  have HO : Hid (OP = if levS x.op < least then .bs [40] :: P ++ [.bs [41]] else P) := Lib.hid (by rw [← hP, ← hOP]; rfl)
  rw [hP] at HB HBL
  rw [hOP]
  obtain ⟨op, hop⟩ : ∃ op, x.op = op := ⟨_, rfl⟩
  rw [hop] at c0 HLV HO
  obtain ⟨lv, hlv⟩ : ∃ lv, levS op = lv := ⟨_, rfl⟩
  rw [hlv] at HLV HO
  clear h hl hF hSg hla hx hSf hc h1 h2 hn hok hOP hP hop hlv
  go_enter Tryz.func51, Tryz.ntmps51
  go_wp2_with fail
  refine (HLV.out w).mono ?_
  rintro e w1 ⟨rfl, hg1⟩
  have HG1 := Lib.hid hg1
  clear hg1
  have HW1 := Lib.hid (HW.out.kept HG1.out)
  have HF1 : Hid (Fr2 (fun k => ¬ S k) w w1) := Lib.hid (Fr2.none HG1.out)
  by_cases hlt : lv < least
  · have HO2 : Hid (OP = .bs [40] :: (P ++ [.bs [41]])) := Lib.hid (by rw [HO.out, if_pos hlt]; rfl)
    have y1 : decide ((least : Int) ≤ (lv : Int)) = false := decide_eq_false (by omega)
    have y2 : decide ((lv : Int) ≥ (least : Int)) = false := decide_eq_false (by omega)
    have y3 : decide (least ≤ lv) = false := decide_eq_false (by omega)
    clear hlt
    go_wp2_with fail
    refine (HPUT.out _ _ w1 HW1.out (by have := HL.out; omega)).mono ?_
    rintro e w2 ⟨rfl, hw2, hf2⟩
    have HW2 := Lib.hid hw2; have HF2 := Lib.hid (HF1.out.trans hf2)
    clear hw2 hf2
    go_wp2_with fail
    refine (HB.out _ w2 HF2.out HW2.out (by have h := HL.out; simp only [List.length_append, List.length_cons, List.length_nil]; omega)).mono ?_
    rintro e w3 ⟨rfl, R, hw3, hp3, hf3⟩
    have HW3 := Lib.hid hw3; have HP3 := Lib.hid hp3; have HF3 := Lib.hid (HF2.out.trans hf3)
    clear hw3 hf3 hp3
    go_wp2_with fail
    refine (HPUT.out _ _ w3 HW3.out (by have h := HL.out; have h2 := HP3.out.len; have h3 := HBL.out; simp only [List.length_append, List.length_cons, List.length_nil]; omega)).mono ?_
    rintro e w4 ⟨rfl, hw4, hf4⟩
    have HW4 := Lib.hid hw4
    have HP4 := Lib.hid (HP3.out.same hf4 (fun k hk e => e (HF.out k hk)))
    have HF4 := Lib.hid (HF3.out.trans hf4)
    clear hw4 hf4
    go_wp2_with fail
    go_end0
    rw [HO2.out]
    refine ⟨rfl, rowB [40] :: (R ++ [rowB [41]]), ?_, ⟨_, _, rfl, rfl, HP4.out.app ⟨_, [], rfl, rfl, rfl⟩⟩, HF4.out⟩
    have h := HW4.out
    simp only [List.append_assoc, List.cons_append, List.nil_append] at h ⊢
    exact h
  · have HO2 : Hid (OP = P) := Lib.hid (by rw [HO.out, if_neg hlt])
    have y1 : decide ((least : Int) ≤ (lv : Int)) = true := decide_eq_true (by omega)
    have y2 : decide ((lv : Int) ≥ (least : Int)) = true := decide_eq_true (by omega)
    have y3 : decide (least ≤ lv) = true := decide_eq_true (by omega)
    clear hlt
    go_wp2_with fail
    refine (HB.out _ w1 HF1.out HW1.out (by have h := HL.out; omega)).mono ?_
    rintro e w3 ⟨rfl, R, hw3, hp3, hf3⟩
    have HW3 := Lib.hid hw3; have HP3 := Lib.hid hp3; have HF3 := Lib.hid (HF1.out.trans hf3)
    clear hw3 hf3 hp3
    go_wp2_with fail
    go_end0
    rw [HO2.out]
    exact ⟨rfl, R, HW3.out, HP3.out, HF3.out⟩

/-- A piece's three values. -/
abbrev PcV := ByteArray × Option Addr × Int
def encP (x : PcV) : List Value := [.string x.1, .pointer x.2.1, .int .i64 x.2.2]
def revRen : Go.Shelf.Ren := ⟨fun | 35 => 49 | n => n, fun | 22 => 75 | 23 => 104 | n => n, fun | n => n⟩
theorem revLay : SlLaysE0.n35 Tryz.prog revRen := {
  mixed := by kernel_rfl
  f35 := ⟨"slices.Reverse[[]touchstone/show.piece,touchstone/show.piece]", of_decide_eq_true (by kernel_rfl), Tryz.func49.trans (congrArg some (by kernel_rfl))⟩
  t0 := Tryz.underlying0
  a0 := Tryz.isAgg0
  z0 := Tryz.sizeOf0
  v0 := Tryz.zeroValue0
  t3 := Tryz.underlying3
  a3 := Tryz.isAgg3
  z3 := Tryz.sizeOf3
  v3 := Tryz.zeroValue3
  t4 := Tryz.underlying4
  a4 := Tryz.isAgg4
  z4 := Tryz.sizeOf4
  v4 := Tryz.zeroValue4
  t22 := Tryz.underlying75
  a22 := Tryz.isAgg75
  z22 := Tryz.sizeOf75
  v22 := Tryz.zeroValue75 }
theorem encP_len (x : PcV) : (encP x).length = 3 := rfl
theorem encP_one (x : PcV) : ∀ v ∈ encP x, v.oneCell' = true := by
  intro v hv
  simp only [encP, List.mem_cons, List.not_mem_nil, or_false] at hv
  rcases hv with rfl | rfl | rfl <;> rfl
theorem rev_lib (blk off cap : Nat) (d : Array PcV) (w : World) (hH : Go.Sort.HoldsK encP 3 w blk off d) (hsz : d.size ≤ 9223372036854775807) :
    Calls Tryz.prog 49 #[.slice (some ⟨blk, off, none⟩) d.size cap] w fun e w' => e = .returned (.tuple #[]) ∧ ∃ n, w' = Go.Sort.putRowK encP 3 (Go.Sort.ahead w n) blk off d.reverse :=
  AnyQ.slices_Reverse revLay 3 Tryz.isAgg104 Tryz.sizeOf104 encP encP_len encP_one blk off cap d w hH hsz

theorem rv_get : ∀ (d : List PcV) (j : Nat), j < d.length * 3 → (d.map encP).flatten[j]? = some ((encP d[j / 3]!)[j % 3]!)
  | [], j, h => by simp at h
  | x :: d, j, h => by
    simp only [List.map_cons, List.flatten_cons]
    by_cases h3 : j < 3
    · rw [List.getElem?_append_left (by rw [encP_len]; exact h3)]
      have : j = 0 ∨ j = 1 ∨ j = 2 := by omega
      rcases this with rfl | rfl | rfl <;> rfl
    · rw [List.getElem?_append_right (by rw [encP_len]; omega), encP_len]
      rw [rv_get d (j - 3) (by simp only [List.length_cons] at h; omega)]
      have e1 : j / 3 = (j - 3) / 3 + 1 := by omega
      have e2 : j % 3 = (j - 3) % 3 := by omega
      rw [e1, e2]
      rfl
theorem rv_len : ∀ (d : List PcV), (d.map encP).flatten.length = d.length * 3
  | [] => rfl
  | x :: d => by simp only [List.map_cons, List.flatten_cons, List.length_append, rv_len d, encP_len, List.length_cons]; omega
theorem flatK_get (d : List PcV) (j : Nat) (h : j < d.length * 3) : some (Go.Sort.flatK encP 3 d.toArray)[j]! = (d.map encP).flatten[j]? := by
  rw [Go.Sort.get_flatK encP 3 d.toArray j (by simpa using h), rv_get d j h]
  simp
theorem holds_rows {w : World} {g cap n : Nat} {B : Nat} {rows : List (List Value)} {d : List PcV} (hO : OwnG 3 104 w B (.slice (some ⟨g, 0, none⟩) n cap) (rows ++ d.map encP)) : Go.Sort.HoldsK encP 3 w g (rows.length * 3) d.toArray := by
  obtain ⟨⟨hln, ho⟩, hw⟩ := hO
  have hrl : rows.flatten.length = rows.length * 3 := flat_len (s := 3) (fun q hq => hw q (List.mem_append_left _ hq))
  rcases ho with ⟨h, -⟩ | ⟨g', cap', cur, he, hb, hg, h1, h2, h3, h4⟩
  · simp at h
  simp only [Value.slice.injEq, Option.some.injEq, Addr.mk.injEq, and_true] at he
  obtain ⟨rfl, hn, rfl⟩ := he
  intro j hj
  have hj : j < d.length * 3 := by simpa using hj
  have hx : cur[rows.length * 3 + j]? = some ((Go.Sort.flatK encP 3 d.toArray)[j]!) := by
    rw [flatK_get d j hj]
    have h5 : (cur.toList.take ((rows ++ d.map encP).length * 3))[rows.length * 3 + j]? = (d.map encP).flatten[j]? := by
      rw [h4, List.flatten_append, List.getElem?_append_right (by omega), hrl]
      congr 1; omega
    rw [List.getElem?_take, if_pos (by simp only [List.length_append, List.length_map]; omega)] at h5
    rw [← h5]; simp
  refine ⟨?_, ?_⟩
  · rw [cell_of_row w g _ _ _ (0, 0) hg]; exact hx
  · simp [World.frozen?, hg]
theorem put_rows {w : World} {g cap n k : Nat} {B : Nat} {rows : List (List Value)} {d : List PcV} (hO : OwnG 3 104 w B (.slice (some ⟨g, 0, none⟩) n cap) (rows ++ d.map encP)) :
    OwnG 3 104 (Go.Sort.putRowK encP 3 (Go.Sort.ahead w k) g (rows.length * 3) d.toArray.reverse) B (.slice (some ⟨g, 0, none⟩) n cap) (rows ++ d.reverse.map encP) := by
  obtain ⟨⟨hln, ho⟩, hw⟩ := hO
  have hrl : rows.flatten.length = rows.length * 3 := flat_len (s := 3) (fun q hq => hw q (List.mem_append_left _ hq))
  have hlen : (rows ++ d.reverse.map encP).length = (rows ++ d.map encP).length := by simp
  have hw2 : Wid 3 (rows ++ d.reverse.map encP) := fun q hq => by
    rcases List.mem_append.1 hq with h | h
    · exact hw q (List.mem_append_left _ h)
    · obtain ⟨x, hx, rfl⟩ := List.mem_map.1 h
      exact ⟨rfl, encP_one x⟩
  rcases ho with ⟨h, -⟩ | ⟨g', cap', cur, he, hb, hg, h1, h2, h3, h4⟩
  · simp at h
  simp only [Value.slice.injEq, Option.some.injEq, Addr.mk.injEq, and_true] at he
  obtain ⟨rfl, hn, rfl⟩ := he
  refine ⟨⟨flat_len hw2, .inr ⟨g, cap, Go.Sort.putCells id (rows.length * 3) (Go.Sort.flatK encP 3 d.toArray.reverse) cur, by rw [hlen, ← hn], hb, ?_, by rw [hlen]; exact h1, h2, ?_, ?_⟩⟩, hw2⟩
  · simp [Go.Sort.putRowK, Go.Sort.putRow, Go.Sort.mapBlock, Array.getElem?_modify, hg, Go.Sort.onCells]
  · simp only [Go.Sort.putCells, Array.size_mapIdx]; exact h3
  · have hT : (rows ++ d.map encP).length * 3 = rows.length * 3 + d.length * 3 := by simp only [List.length_append, List.length_map]; omega
    rw [hlen, hT]
    apply List.ext_getElem?
    intro j
    rw [List.flatten_append]
    by_cases hj : j < rows.length * 3 + d.length * 3
    · rw [List.getElem?_take, if_pos hj, Array.getElem?_toList]
      have hcj : j < cur.size := by rw [h3]; have := Nat.mul_le_mul_right 3 h1; omega
      have hcur : ((rows ++ d.map encP).flatten)[j]? = cur[j]? := by rw [← h4, List.getElem?_take, if_pos (by omega), Array.getElem?_toList]
      by_cases hr : j < rows.length * 3
      · rw [List.getElem?_append_left (by omega)]
        rw [List.flatten_append, List.getElem?_append_left (by omega)] at hcur
        rw [hcur]
        simp only [Go.Sort.putCells, Array.getElem?_mapIdx]
        rw [Array.getElem?_eq_getElem hcj, Option.map_some, if_neg (by omega)]
      · rw [List.getElem?_append_right (by omega), hrl]
        have e1 : d.toArray.reverse = d.reverse.toArray := by simp
        rw [e1, ← flatK_get d.reverse (j - rows.length * 3) (by simp only [List.length_reverse]; omega)]
        simp only [Go.Sort.putCells, Array.getElem?_mapIdx, Go.Sort.size_flatK, List.size_toArray, List.length_reverse]
        rw [Array.getElem?_eq_getElem hcj, Option.map_some, if_pos (by omega)]
        rfl
    · rw [List.getElem?_take, if_neg hj]
      symm
      apply List.getElem?_eq_none
      rw [List.length_append, hrl, rv_len, List.length_reverse]; omega
theorem put_fr {w : World} {g k off : Nat} {F : Array PcV} {S : Nat → Prop} (hS : S g) : Fr2 S w (Go.Sort.putRowK encP 3 (Go.Sort.ahead w k) g off F) := by
  refine ⟨rfl, rfl, rfl, ?_, fun j hj hn => ?_⟩
  · simp [Go.Sort.putRowK]
  · have hne : g ≠ j := fun e => hn (e ▸ hS)
    simp [Go.Sort.putRowK, Go.Sort.putRow, Go.Sort.mapBlock, Array.getElem?_modify, hne]
theorem rev_c9 (S : Nat → Prop) (B b : Nat) (rows : List (List Value)) (d : List PcV) (g n cap cap' : Nat) (w : World) (h : WrAt S B b w (rows ++ d.map encP)) (c0 : w.cell? ⟨b, 0, none⟩ = some (.slice (some ⟨g, 0, none⟩) n cap)) (hl : d.length ≤ 1000000) :
    Calls Tryz.prog 49 #[.slice (some ⟨g, rows.length * 3, none⟩) d.length cap'] w (PcPost S B b (rows ++ d.reverse.map encP) w) := by
  obtain ⟨v, hb, hO, hbB, hB, hSb, hSv, hSs⟩ := h
  rw [cell_of_row w b 0 _ _ (0, 0) hb] at c0
  have c0 : v = .slice (some ⟨g, 0, none⟩) n cap := Option.some.inj c0
  subst c0
  have hL := rev_lib g (rows.length * 3) cap' d.toArray w (holds_rows hO) (by rw [List.size_toArray]; omega)
  rw [List.size_toArray] at hL
  refine hL.mono ?_
  rintro e w' ⟨rfl, k, rfl⟩
  have hgB : B ≤ g := (hO.at g rfl).1
  have hf : Fr2 (fun k => k = g) w (Go.Sort.putRowK encP 3 (Go.Sort.ahead w k) g (rows.length * 3) d.toArray.reverse) := put_fr rfl
  refine ⟨rfl, ⟨_, ?_, put_rows hO, hbB, Nat.le_trans hB hf.size, hSb, hSv, fun k hk => Nat.lt_of_lt_of_le (hSs k hk) hf.size⟩, hf.mono (fun k e => ?_)⟩
  · rw [hf.block b (hlt hb) (fun e => by have e : b = g := e; omega)]; exact hb
  · have e : k = g := e
    rw [e]; exact hSv g rfl

theorem pcs_enc {F : Nat → Prop} {w : World} : ∀ {l : List Pc} {r : List (List Value)}, PcsAt F w l r → ∃ d : List PcV, r = d.map encP ∧ d.length = l.length
  | [], r, h => by have h : r = [] := h; subst h; exact ⟨[], rfl, rfl⟩
  | p :: l, r, h => by
    obtain ⟨q, r', rfl, h3, h4⟩ := h
    obtain ⟨d, rfl, hd⟩ := pcs_enc h4
    cases p with
    | bs s =>
      have h3 : q = rowB s := h3
      subst h3
      exact ⟨(⟨s.toArray⟩, none, 0) :: d, rfl, by simp [hd]⟩
    | ex x least =>
      obtain ⟨g, o, q', rfl, -⟩ := h3
      exact ⟨(⟨#[]⟩, some ⟨g, o, none⟩, (least : Int)) :: d, rfl, by simp [hd]⟩
theorem PcsAt.rev {F : Nat → Prop} {w : World} : ∀ {l : List Pc} {r : List (List Value)}, PcsAt F w l r → PcsAt F w l.reverse r.reverse
  | [], r, h => by have h : r = [] := h; subst h; rfl
  | p :: l, r, h => by
    obtain ⟨q, r', rfl, h3, h4⟩ := h
    rw [List.reverse_cons, List.reverse_cons]
    exact PcsAt.app (PcsAt.rev h4) ⟨q, [], rfl, h3, rfl⟩
theorem PcsAt.split {F : Nat → Prop} {w : World} : ∀ {l l2 : List Pc} {r : List (List Value)}, PcsAt F w (l ++ l2) r → ∃ r1 r2, r = r1 ++ r2 ∧ PcsAt F w l r1 ∧ PcsAt F w l2 r2
  | [], l2, r, h => ⟨[], r, rfl, rfl, h⟩
  | p :: l, l2, r, h => by
    obtain ⟨q, r', rfl, h3, h4⟩ := h
    obtain ⟨r1, r2, rfl, h5, h6⟩ := PcsAt.split h4
    exact ⟨q :: r1, r2, rfl, ⟨q, r1, rfl, h3, h5⟩, h6⟩
/-- The last row taken off. -/
theorem WrAt.pop {S : Nat → Prop} {B b g n cap : Nat} {w : World} {rows : List (List Value)} {q : List Value} (h : WrAt S B b w (rows ++ [q])) (c0 : w.cell? ⟨b, 0, none⟩ = some (.slice (some ⟨g, 0, none⟩) n cap)) :
    WrAt S B b (w.setCell ⟨b, 0, none⟩ (.slice (some ⟨g, 0, none⟩) rows.length cap)) rows ∧ Fr2 (fun k => ¬ S k) w (w.setCell ⟨b, 0, none⟩ (.slice (some ⟨g, 0, none⟩) rows.length cap)) := by
  obtain ⟨v, hb, hO, hbB, hB, hSb, hSv, hSs⟩ := h
  rw [cell_of_row w b 0 _ _ (0, 0) hb] at c0
  have c0 : v = .slice (some ⟨g, 0, none⟩) n cap := Option.some.inj c0
  subst c0
  have hgB : B ≤ g := (hO.at g rfl).1
  have hf : Fr2 (fun k => k = b) w (w.setCell ⟨b, 0, none⟩ (.slice (some ⟨g, 0, none⟩) rows.length cap)) := Fr2.setCell (S := fun k => k = b) (Fr2.refl _ _) rfl _
  obtain ⟨⟨hln, ho⟩, hw⟩ := hO
  have hw2 : Wid 3 rows := fun q hq => hw q (List.mem_append_left _ hq)
  have hrl : rows.flatten.length = rows.length * 3 := flat_len hw2
  rcases ho with ⟨h, -⟩ | ⟨g', cap', cur, he, hb1, hg, h1, h2, h3, h4⟩
  · simp at h
  simp only [Value.slice.injEq, Option.some.injEq, Addr.mk.injEq, and_true] at he
  obtain ⟨rfl, hn, rfl⟩ := he
  have hl1 : (rows ++ [q]).length = rows.length + 1 := by simp
  rw [hl1] at h1 h4
  have hO2 : OwnG 3 104 w B (.slice (some ⟨g, 0, none⟩) rows.length cap) rows := by
    refine ⟨⟨hrl, .inr ⟨g, cap, cur, rfl, hb1, hg, by omega, h2, h3, ?_⟩⟩, hw2⟩
    have h5 := congrArg (List.take (rows.length * 3)) h4
    rw [List.take_take, List.flatten_append, List.take_append_of_le_length (by omega), List.take_of_length_le (l := rows.flatten) (by omega)] at h5
    rw [← h5]; congr 1; omega
  refine ⟨⟨_, box1 hb, hO2.keptF hf (fun k hk e => by have e2 : g = k := Option.some.inj (show some g = some k from hk); have e : k = b := e; omega), hbB, Nat.le_trans hB hf.size, hSb, fun k hk => hSv k hk, fun k hk => Nat.lt_of_lt_of_le (hSs k hk) hf.size⟩, hf.mono (fun k e => ?_)⟩
  have e : k = b := e
  rw [e]; exact hSb
/-- What the box of a writer with rows holds. -/
theorem WrAt.cell {S : Nat → Prop} {B b : Nat} {w : World} {rows : List (List Value)} (h : WrAt S B b w rows) (h0 : rows ≠ []) : ∃ g cap, w.cell? ⟨b, 0, none⟩ = some (.slice (some ⟨g, 0, none⟩) rows.length cap) ∧ B ≤ g ∧ g < w.heap.size ∧ ¬ S g ∧ b < B ∧ rows.length ≤ cap ∧ ∀ j, w.frozen? ⟨b, j, none⟩ = false := by
  obtain ⟨v, hb, hO, hbB, hB, hSb, hSv, hSs⟩ := h
  obtain ⟨⟨hln, ho⟩, hw⟩ := hO
  rcases ho with ⟨-, h⟩ | ⟨g, cap, cur, rfl, hb1, hg, h1, h2, h3, h4⟩
  · exact absurd (List.eq_nil_of_length_eq_zero h) h0
  · exact ⟨g, cap, by rw [cell_of_row w b 0 _ _ (0, 0) hb]; rfl, hb1, hlt hg, hSv g rfl, hbB, h1, fun j => by simp [World.frozen?, hb]⟩

theorem cells7x {w : World} {r : Nat} {a b c d e f g : Value} {T : TypeId} (h0 : w.heap[r]? = some (.cells #[a, b, c, d, e, f, g] T (0, 0))) : w.cell? ⟨r, 0, none⟩ = some a ∧ w.cell? ⟨r, 1, none⟩ = some b ∧ w.cell? ⟨r, 2, none⟩ = some c ∧ w.cell? ⟨r, 3, none⟩ = some d ∧ w.cell? ⟨r, 4, none⟩ = some e ∧ w.cell? ⟨r, 5, none⟩ = some f ∧ w.cell? ⟨r, 6, none⟩ = some g ∧ r < w.heap.size := by
  refine ⟨?_, ?_, ?_, ?_, ?_, ?_, ?_, hlt h0⟩ <;> (rw [cell_of_row w r _ _ _ (0, 0) h0]; rfl)
/-- An expression of the document's as a value. -/
def rval (op : Int) (nm md : List UInt8) (u : ByteArray) (ys : Bool) (pk : Option Addr) (n ck : Nat) (ps : Int) : Value := .agg #[.int .i64 op, .string ⟨nm.toArray⟩, .string ⟨md.toArray⟩, .string u, .bool ys, .slice pk n ck, .int .i64 ps]
set_option maxRecDepth 100000 in
set_option maxHeartbeats 16000000 in
theorem rnames_c (op : Int) (nm md : List UInt8) (u : ByteArray) (ys : Bool) (pk : Option Addr) (n ck : Nat) (ps : Int) (w : World) (h1 : nm.length ≤ 60000) (h2 : md.length ≤ 60000) :
    Calls Tryz.prog 17 #[rval op nm md u ys pk n ck ps] w (TruePost (namesB op nm md) w) := by
  have HN := Lib.hid (fun W => rplain_c ⟨nm.toArray⟩ W (by show nm.length ≤ 60000; exact h1))
  have HM := Lib.hid (fun W => rplain_c ⟨md.toArray⟩ W (by show md.length ≤ 60000; exact h2))
  have e1 := emp_dec md
  have e2 := emp_dec nm
  obtain ⟨b0, hb0⟩ : ∃ b, decide (nm = []) = b := ⟨_, rfl⟩
  obtain ⟨b1, hb1⟩ : ∃ b, plainB nm = b := ⟨_, rfl⟩
  obtain ⟨b2, hb2⟩ : ∃ b, decide (md = []) = b := ⟨_, rfl⟩
  obtain ⟨b3, hb3⟩ : ∃ b, plainB md = b := ⟨_, rfl⟩
  have HB1 := Lib.hid hb1
  have HB3 := Lib.hid hb3
  unfold namesB rval
  rw [hb2] at e1
  rw [hb0] at e2
  rw [hb0, hb1, hb2, hb3]
  clear h1 h2 hb0 hb1 hb2 hb3
  by_cases hA : op = 3 ∨ op = 22
  · rw [if_pos hA]
    rcases hA with rfl | rfl
    all_goals
      go_enter Tryz.func17, Tryz.ntmps17
      go_wp2_with fail
      refine (HN.out _).mono ?_
      rintro e w1 ⟨rfl, hg⟩
      have HG := Lib.hid (gb_trans (show w.grownBy _ none from (by repeat (first | with_reducible exact gb_refl _ _ | with_reducible refine gb_drew ?_ | with_reducible refine gb_alloc ?_ _))) hg)
      have hbk := bx hg (heap_alloc_new w _)
      obtain ⟨c0, c1, c2, c3, c4, c5, c6, -⟩ := cells7x hbk
      rw [HB1.out]
      clear hg hbk
      cases b1
      all_goals
        go_wp2_with fail
        go_ret
        exact ⟨by simp, HG.out⟩
  · rw [if_neg hA]
    by_cases hB : op = 24
    · subst hB
      rw [if_pos rfl]
      cases b2
      all_goals
        go_enter Tryz.func17, Tryz.ntmps17
        go_wp2_with fail
        refine (HN.out _).mono ?_
        rintro e w1 ⟨rfl, hg⟩
        have HG := Lib.hid (gb_trans (show w.grownBy _ none from (by repeat (first | with_reducible exact gb_refl _ _ | with_reducible refine gb_drew ?_ | with_reducible refine gb_alloc ?_ _))) hg)
        have hbk := bx hg (heap_alloc_new w _)
        obtain ⟨c0, c1, c2, c3, c4, c5, c6, -⟩ := cells7x hbk
        rw [HB1.out]
        clear hg hbk
        cases b1
      focus
        go_wp2_with fail
        go_ret
        exact ⟨by simp, HG.out⟩
      focus
        go_wp2_with fail
        refine (HM.out _).mono ?_
        rintro e w2 ⟨rfl, hg2⟩
        have HG2 := Lib.hid (gb_trans HG.out hg2)
        rw [HB3.out]
        clear hg2
        go_wp2_with fail
        go_ret
        exact ⟨by simp, HG2.out⟩
      all_goals
        go_wp2_with fail
        go_ret
        exact ⟨by simp, HG.out⟩
    · rw [if_neg hB]
      have d3 : (op == 3) = false := beq_eq_false_iff_ne.2 (fun e => hA (.inl e))
      have d22 : (op == 22) = false := beq_eq_false_iff_ne.2 (fun e => hA (.inr e))
      have d24 : (op == 24) = false := beq_eq_false_iff_ne.2 hB
      clear hA hB
      cases b0
      all_goals
        go_enter Tryz.func17, Tryz.ntmps17
        go_wp2_with fail
        go_ret
        exact ⟨by simp, (by repeat (first | with_reducible exact gb_refl _ _ | with_reducible refine gb_drew ?_ | with_reducible refine gb_alloc ?_ _))⟩

mutual
theorem RSt.bound {F : Nat → Prop} {w : World} : ∀ {x : Sx} {q : List Value}, RSt F w x q → RSt (fun k => F k ∧ k < w.heap.size) w x q
  | .mk op nm md nu ys ks ps, q, h => by
    simp only [RSt] at h ⊢
    obtain ⟨pk, ck, rows, h1, h3, h4, h5⟩ := h
    refine ⟨pk, ck, rows, h1, h3, LsU.bound h4, fun h0 => ?_⟩
    obtain ⟨a, ha, h6⟩ := h5 h0
    have hr := h4.len
    rcases h3 with e | ⟨g, off, e, hg, -⟩
    · rw [e] at hr; exact absurd (List.eq_nil_of_length_eq_zero hr.symm) h0
    · rw [ha] at e; injection e with e; subst e; exact ⟨_, ha, h6, hg⟩
theorem LsU.bound {F : Nat → Prop} {w : World} : ∀ {l : List Sx} {r : List (List Value)}, LsU F w l r → LsU (fun k => F k ∧ k < w.heap.size) w l r
  | [], r, h => by simp only [LsU] at h ⊢; exact h
  | x :: l, r, h => by
    simp only [LsU] at h ⊢
    obtain ⟨q, r', h1, h2, h3⟩ := h
    exact ⟨q, r', h1, RSt.bound h2, LsU.bound h3⟩
end
theorem RSt.seven {F : Nat → Prop} {w : World} {x : Sx} {q : List Value} (h : RSt F w x q) : ∃ a0 a1 a2 a3 a4 a5 a6, q = [a0, a1, a2, a3, a4, a5, a6] := by
  cases x with
  | mk op nm md nu ys ks ps =>
    simp only [RSt] at h
    obtain ⟨pk, ck, rows, rfl, -⟩ := h
    exact ⟨_, _, _, _, _, _, _, rfl⟩
theorem RSt.one {F : Nat → Prop} {w : World} {x : Sx} {q : List Value} (h : RSt F w x q) : q.length = 7 ∧ ∀ u ∈ q, u.oneCell' = true := by
  refine ⟨h.len, ?_⟩
  cases x with
  | mk op nm md nu ys ks ps =>
    simp only [RSt] at h
    obtain ⟨pk, ck, rows, rfl, -⟩ := h
    intro u hu
    simp only [List.mem_cons, List.not_mem_nil, or_false] at hu
    rcases hu with rfl | rfl | rfl | rfl | rfl | rfl | rfl <;> rfl
def ExPostS (x : Sx) (w : World) (e : Ending) (w' : World) : Prop := w.grownBy w' none ∧ ∃ q, e = .returned (.agg q.toArray) ∧ RSt (fun k => w.heap.size ≤ k) w' x q
theorem set7u {W : World} {B : Nat} {T : TypeId} {x0 x1 x2 x3 x4 x5 x6 : Value} (h0 : W.heap[B]? = some (.cells #[x0, x1, x2, x3, x4, x5, x6] T (0, 0))) (a b c d e f g : Value) : (((((((W.setCell ⟨B, 0, none⟩ a).setCell ⟨B, 1, none⟩ b).setCell ⟨B, 2, none⟩ c).setCell ⟨B, 3, none⟩ d).setCell ⟨B, 4, none⟩ e).setCell ⟨B, 5, none⟩ f).setCell ⟨B, 6, none⟩ g).heap[B]? = some (.cells #[a, b, c, d, e, f, g] T (0, 0)) ∧ Fr2 (fun k => k = B) W (((((((W.setCell ⟨B, 0, none⟩ a).setCell ⟨B, 1, none⟩ b).setCell ⟨B, 2, none⟩ c).setCell ⟨B, 3, none⟩ d).setCell ⟨B, 4, none⟩ e).setCell ⟨B, 5, none⟩ f).setCell ⟨B, 6, none⟩ g) := by
  have h1 : (W.setCell ⟨B, 0, none⟩ a).heap[B]? = some (.cells #[a, x1, x2, x3, x4, x5, x6] T (0, 0)) := set_cells (i := 0) (u := a) h0
  have h2 : ((W.setCell ⟨B, 0, none⟩ a).setCell ⟨B, 1, none⟩ b).heap[B]? = some (.cells #[a, b, x2, x3, x4, x5, x6] T (0, 0)) := set_cells (i := 1) (u := b) h1
  have h3 : (((W.setCell ⟨B, 0, none⟩ a).setCell ⟨B, 1, none⟩ b).setCell ⟨B, 2, none⟩ c).heap[B]? = some (.cells #[a, b, c, x3, x4, x5, x6] T (0, 0)) := set_cells (i := 2) (u := c) h2
  have h4 : ((((W.setCell ⟨B, 0, none⟩ a).setCell ⟨B, 1, none⟩ b).setCell ⟨B, 2, none⟩ c).setCell ⟨B, 3, none⟩ d).heap[B]? = some (.cells #[a, b, c, d, x4, x5, x6] T (0, 0)) := set_cells (i := 3) (u := d) h3
  have h5 : (((((W.setCell ⟨B, 0, none⟩ a).setCell ⟨B, 1, none⟩ b).setCell ⟨B, 2, none⟩ c).setCell ⟨B, 3, none⟩ d).setCell ⟨B, 4, none⟩ e).heap[B]? = some (.cells #[a, b, c, d, e, x5, x6] T (0, 0)) := set_cells (i := 4) (u := e) h4
  have h6 : ((((((W.setCell ⟨B, 0, none⟩ a).setCell ⟨B, 1, none⟩ b).setCell ⟨B, 2, none⟩ c).setCell ⟨B, 3, none⟩ d).setCell ⟨B, 4, none⟩ e).setCell ⟨B, 5, none⟩ f).heap[B]? = some (.cells #[a, b, c, d, e, f, x6] T (0, 0)) := set_cells (i := 5) (u := f) h5
  have hs : (fun k => k = B) B := rfl
  exact ⟨set_cells (i := 6) (u := g) h6, ((((((((Fr2.refl (fun k => k = B) W).setCell hs a).setCell hs b).setCell hs c).setCell hs d).setCell hs e).setCell hs f).setCell hs g)⟩
theorem cells7u {w : World} {r : Nat} {a b c d e f g : Value} {T : TypeId} (h0 : w.heap[r]? = some (.cells #[a, b, c, d, e, f, g] T (0, 0))) : w.cell? ⟨r, 0, none⟩ = some a ∧ w.cell? ⟨r, 1, none⟩ = some b ∧ w.cell? ⟨r, 2, none⟩ = some c ∧ w.cell? ⟨r, 3, none⟩ = some d ∧ w.cell? ⟨r, 4, none⟩ = some e ∧ w.cell? ⟨r, 5, none⟩ = some f ∧ w.cell? ⟨r, 6, none⟩ = some g ∧ ∀ o, w.frozen? ⟨r, o, none⟩ = false :=
  ⟨by rw [cell_of_row w r 0 _ T (0, 0) h0]; rfl, by rw [cell_of_row w r 1 _ T (0, 0) h0]; rfl, by rw [cell_of_row w r 2 _ T (0, 0) h0]; rfl, by rw [cell_of_row w r 3 _ T (0, 0) h0]; rfl, by rw [cell_of_row w r 4 _ T (0, 0) h0]; rfl, by rw [cell_of_row w r 5 _ T (0, 0) h0]; rfl, by rw [cell_of_row w r 6 _ T (0, 0) h0]; rfl, fun o => by simp [World.frozen?, h0]⟩
theorem infoRU : (Tryz.prog.info? 33).map (fun i => (i.zero, i.size, i.bytes)) = some (some (.agg #[.int .i64 0, .string ⟨#[]⟩, .string ⟨#[]⟩, .string ⟨#[]⟩, .bool false, .slice none 0 0, .int .i64 0]), 7, 96) := by kernel_rfl
theorem fr_after {S : Nat → Prop} {w a b : World} (h : w.grownBy a none) (k : Fr2 S a b) (hS : ∀ i, S i → w.heap.size ≤ i) : w.grownBy b none :=
  below_gb ⟨k.os.trans h.os, k.tape.trans h.tape, k.output.trans h.output, Nat.le_trans h.size k.size, fun i hi => (k.block i (Nat.lt_of_lt_of_le hi h.size) (fun hs => by have := hS i hs; omega)).trans (h.block i hi (by simp))⟩
/-- Seven cells stored where the result lies. -/
theorem exu_put {w w4 : World} {b1 : Nat} {T : TypeId} {x0 x1 x2 x3 x4 x5 x6 a b c d e f g : Value} {F : Nat → Prop} {x : Sx} (hgw : w.grownBy w4 none) (hb : w.heap.size ≤ b1) (hB : w4.heap[b1]? = some (.cells #[x0, x1, x2, x3, x4, x5, x6] T (0, 0))) (hX : RSt F w4 x [a, b, c, d, e, f, g]) (hF : ∀ k, F k → w.heap.size ≤ k ∧ k ≠ b1) :
    ExPostS x w (.returned (.agg #[a, b, c, d, e, f, g])) (((((((w4.setCell ⟨b1, 0, none⟩ a).setCell ⟨b1, 1, none⟩ b).setCell ⟨b1, 2, none⟩ c).setCell ⟨b1, 3, none⟩ d).setCell ⟨b1, 4, none⟩ e).setCell ⟨b1, 5, none⟩ f).setCell ⟨b1, 6, none⟩ g) := by
  obtain ⟨hp, hf⟩ := set7u hB a b c d e f g
  refine ⟨fr_after hgw hf (fun j hj => by have e : j = b1 := hj; omega), [a, b, c, d, e, f, g], rfl, ?_⟩
  exact RSt.mono (fun k hk => (hF k hk).1) (RSt.same hf (fun k hk e => (hF k hk).2 e) hX)
def EBoxU (W : World) (v0 v1 v2 v3 v4 v5 v6 : Value) (t3 : Value) (wx : World) : Prop := ∃ b2, t3 = .pointer (some ⟨b2, 0, none⟩) ∧ wx.heap[b2]? = some (.cells #[v0, v1, v2, v3, v4, v5, v6] 33 (0, 0)) ∧ W.heap.size ≤ b2 ∧ W.grownBy wx none
theorem ebox_new {W w2 : World} {v0 v1 v2 v3 v4 v5 v6 : Value} (h : W.grownBy w2 none) : EBoxU W v0 v1 v2 v3 v4 v5 v6 (.pointer (some ⟨w2.heap.size, 0, none⟩)) (w2.alloc (.cells #[v0, v1, v2, v3, v4, v5, v6] 33)) :=
  ⟨w2.heap.size, rfl, heap_alloc_new w2 _, h.size, gb_alloc h _⟩
theorem ebox_old {W w2 : World} {b : Nat} {v0 v1 v2 v3 v4 v5 v6 x0 x1 x2 x3 x4 x5 x6 : Value} (h : W.grownBy w2 none) (hb : W.heap.size ≤ b) (hB : w2.heap[b]? = some (.cells #[x0, x1, x2, x3, x4, x5, x6] 33 (0, 0))) : EBoxU W v0 v1 v2 v3 v4 v5 v6 (.pointer (some ⟨b, 0, none⟩)) (((((((w2.setCell ⟨b, 0, none⟩ v0).setCell ⟨b, 1, none⟩ v1).setCell ⟨b, 2, none⟩ v2).setCell ⟨b, 3, none⟩ v3).setCell ⟨b, 4, none⟩ v4).setCell ⟨b, 5, none⟩ v5).setCell ⟨b, 6, none⟩ v6) := by
  obtain ⟨hp, hf⟩ := set7u hB v0 v1 v2 v3 v4 v5 v6
  exact ⟨b, rfl, hp, hb, fr_after h hf (fun j hj => by have e : j = b := hj; omega)⟩
theorem OwnG.rowsU {s n c : Nat} {T : TypeId} {w : World} {base : Nat} {p : Option Addr} {l : List (List Value)} (h : OwnG s T w base (.slice p n c) l) : n = l.length ∧ GAt s w p l ∧ (l ≠ [] → ∃ a, p = some a ∧ base ≤ a.block ∧ a.block < w.heap.size) := by
  obtain ⟨p', c', e, h1, h2, h3, h4⟩ := h.is
  injection e with e1 e2 e3
  subst e1
  refine ⟨e2, h1, fun h0 => ?_⟩
  have hl := List.length_pos_iff.2 h0
  obtain ⟨a, ha, hb, hc⟩ := OwnG.lt h rfl (by omega)
  exact ⟨a, ha, hb, hc⟩
/-- A kid more in a row. -/
theorem push_u {wr w7 wa w9 W9 : World} {B b2 base nv cv g9 n9 cap9 : Nat} {pv : Option Addr} {rows : List (List Value)} {q : List Value} {ks : List Sx} {x : Sx} {u : Value} (hw : B ≤ wr.heap.size) (hO : OwnG 7 33 wr base (.slice pv nv cv) rows) (hb2 : b2 < base) (hb2r : b2 < wr.heap.size)
    (hLS : LsU (fun k => B ≤ k ∧ k < wr.heap.size ∧ k ≠ b2 ∧ (Value.slice pv nv cv).ownBlock ≠ some k) wr ks rows) (hg7 : wr.grownBy w7 none) (hq : RSt (fun k => wr.heap.size ≤ k) w7 x q) (hga : w7.grownBy wa none) (hsa : wa.heap.size = w7.heap.size + 1)
    (hg9 : wa.grownBy w9 (Value.slice pv nv cv).ownBlock) (hl9 : (Value.slice pv nv cv).ownBlock = some g9 ∨ g9 = w7.heap.size + 1) (hf : (w9.setCell ⟨b2, 5, none⟩ u).grownBy W9 none) :
    LsU (fun k => B ≤ k ∧ k < W9.heap.size ∧ k ≠ b2 ∧ (Value.slice (some ⟨g9, 0, none⟩) n9 cap9).ownBlock ≠ some k) W9 (ks ++ [x]) (rows ++ [q]) := by
  have hat := OwnG.at hO
  have s7 := hg7.size
  have s9 := hg9.size
  have sf := hf.size
  have sc : (w9.setCell ⟨b2, 5, none⟩ u).heap.size = w9.heap.size := by simp [World.setCell]
  have fr : Fr2 (fun k => (Value.slice pv nv cv).ownBlock = some k ∨ k = b2) w7 W9 :=
    ((Fr2.none hga).trans ((Fr2.of hg9 (fun k e => .inl e)).trans ((Fr2.setCell (Fr2.refl _ _) (.inr rfl) u).trans (Fr2.none hf))))
  have hne : ∀ k, k < w7.heap.size → (Value.slice pv nv cv).ownBlock ≠ some k → (Value.slice (some ⟨g9, 0, none⟩) n9 cap9).ownBlock ≠ some k := fun k hk h1 e => by
    have e : g9 = k := Option.some.inj (show some g9 = some k from e)
    rcases hl9 with h | h
    · exact h1 (by rw [h, e])
    · omega
  have hno : ∀ k, wr.heap.size ≤ k → (Value.slice pv nv cv).ownBlock ≠ some k := fun k hk e => by have := hat _ e; omega
  refine LsU.snoc ?_ ?_
  · have h1 := RSt.same fr (fun k (hk : wr.heap.size ≤ k ∧ k < w7.heap.size) => fun e => by
      rcases e with e | e
      · exact hno k hk.1 e
      · omega) hq.bound
    exact RSt.mono (fun k hk => ⟨by omega, by omega, by omega, hne k hk.2 (hno k hk.1)⟩) h1
  · have h1 := LsU.same fr (fun k (hk : B ≤ k ∧ k < wr.heap.size ∧ k ≠ b2 ∧ (Value.slice pv nv cv).ownBlock ≠ some k) => fun e => by
      rcases e with e | e
      · exact hk.2.2.2 e
      · exact hk.2.2.1 e) (hLS.kept hg7)
    exact LsU.mono (fun k hk => ⟨hk.1, by omega, hk.2.2.1, hne k (by omega) hk.2.2.2⟩) h1

def BoolOf (p : Prop) (w : World) (e : Ending) (w' : World) : Prop := w.grownBy w' none ∧ ∃ b : Bool, e = .returned (.bool b) ∧ (b = true ↔ p)
theorem ret_false {p : Prop} {w w' : World} (hg : w.grownBy w' none) (h : ¬ p) : BoolOf p w (.returned (.bool false)) w' := ⟨hg, false, rfl, by simp [h]⟩

/-- A cell: its Op, the kids a call takes, its name, module, number's text, truth. -/
structure Cl where
  op : Int
  kids : Int
  nm : List UInt8
  md : List UInt8
  nu : List UInt8
  ys : Bool
def takesC (c : Cl) : Nat := if c.op ≤ 4 ∨ 24 < c.op then 0 else if c.op ≤ 6 then 1 else if c.op = 21 then 3 else if c.op = 24 then (min (max c.kids 0) 9).toNat else 2
def fitsC (c : Cl) : Bool := decide (c.nm.length ≤ 60) && decide (c.md.length ≤ 60) && decide (c.nu.length ≤ 80)
def numC (c : Cl) : Int := if c.op = 1 then Zd.parseV c.nu else 0
/-- What stands open behind a cell. -/
def stepC (o : List Sx) (c : Cl) : List Sx := o.take (o.length - takesC c) ++ [.mk c.op c.nm c.md (numC c) c.ys (o.drop (o.length - takesC c)) 0]
def stackC (l : List Cl) : List Sx := l.foldl stepC []
/-- The expression that a row tells; none, if it is too long, empty, or a cell doesn't fit. -/
def bothC (l : List Cl) : Option Sx := if 30 < l.length then none else if l.all fitsC then (stackC l).getLast? else none
theorem takesC_le (c : Cl) : takesC c ≤ 9 := by
  unfold takesC
  split
  · omega
  split
  · omega
  split
  · omega
  split
  · omega
  · omega
theorem sizSs_append (a b : List Sx) : sizSs (a ++ b) = sizSs a + sizSs b := by
  induction a with
  | nil => simp [sizSs]
  | cons x l ih => simp only [List.cons_append, sizSs, ih]; omega
theorem stepC_siz (o : List Sx) (c : Cl) : sizSs (stepC o c) = sizSs o + 1 := by
  unfold stepC
  have h := sizSs_append (o.take (o.length - takesC c)) (o.drop (o.length - takesC c))
  rw [List.take_append_drop] at h
  rw [sizSs_append, h]
  simp only [sizSs, sizS]; omega
theorem stackC_snoc (l : List Cl) (c : Cl) : stackC (l ++ [c]) = stepC (stackC l) c := by simp [stackC, List.foldl_append]
theorem foldC_siz : ∀ (l : List Cl) (o : List Sx), sizSs (l.foldl stepC o) = sizSs o + l.length
  | [], o => by simp
  | c :: l, o => by rw [List.foldl_cons, foldC_siz l, stepC_siz, List.length_cons]; omega
theorem stackC_siz (l : List Cl) : sizSs (stackC l) = l.length := by
  have := foldC_siz l []
  simp only [sizSs] at this
  unfold stackC; omega
theorem sizSs_len : ∀ l : List Sx, l.length ≤ sizSs l
  | [] => Nat.le_refl _
  | x :: l => by have := sizSs_len l; have := sizS_pos x; simp only [List.length_cons, sizSs]; omega
theorem stackC_len (l : List Cl) : (stackC l).length ≤ l.length := by have := sizSs_len (stackC l); rw [stackC_siz] at this; exact this
theorem bothC_siz {l : List Cl} {x : Sx} (h : bothC l = some x) : sizS x ≤ 30 := by
  unfold bothC at h
  split at h
  · simp at h
  · rename_i h30
    split at h
    · have h1 : x ∈ stackC l := List.mem_of_getLast? h
      obtain ⟨j, hj, rfl⟩ := List.getElem_of_mem h1
      have := sizSs_mem (List.getElem?_eq_getElem hj)
      rw [stackC_siz] at this; omega
    · simp at h

set_option maxRecDepth 100000 in
set_option maxHeartbeats 16000000 in
theorem rcount_c (op : Int) (n : Nat) (w : World) : Calls Tryz.prog 18 #[.int .i64 op, .int .i64 n] w (TruePost (countB op n) w) := by
  have k0 := nat_beq n 0; have k1 := nat_beq n 1; have k2 := nat_beq n 2; have k3 := nat_beq n 3; have k8 := nat_ble n 8
  have HK := Lib.hid (And.intro k0 (And.intro k1 (And.intro k2 (And.intro k3 k8))))
  unfold countB
  by_cases h4 : op ≤ 4
  · have d4 : decide (op ≤ 4) = true := decide_eq_true h4
    rw [if_pos h4]
    clear h4 k0 k1 k2 k3 k8
    go_enter Tryz.func18, Tryz.ntmps18
    go_wp2
    go_ret
    exact ⟨by rw [← HK.out.1]; rfl, gb_refl _ _⟩
  have d4 : decide (op ≤ 4) = false := decide_eq_false h4
  rw [if_neg h4]
  by_cases h6 : op ≤ 6
  · have d6 : decide (op ≤ 6) = true := decide_eq_true h6
    rw [if_pos h6]
    clear h4 h6 k0 k1 k2 k3 k8
    go_enter Tryz.func18, Tryz.ntmps18
    go_wp2
    go_ret
    exact ⟨by rw [← HK.out.2.1]; rfl, gb_refl _ _⟩
  have d6 : decide (op ≤ 6) = false := decide_eq_false h6
  rw [if_neg h6]
  by_cases h2 : op ≤ 20 ∨ op = 22 ∨ op = 23
  · rw [if_pos h2]
    by_cases h20 : op ≤ 20
    · have d20 : decide (op ≤ 20) = true := decide_eq_true h20
      clear h4 h6 h2 h20 k0 k1 k2 k3 k8
      go_enter Tryz.func18, Tryz.ntmps18
      go_wp2
      go_ret
      exact ⟨by rw [← HK.out.2.2.1]; rfl, gb_refl _ _⟩
    · have h3 : op = 22 ∨ op = 23 := by omega
      clear h4 h6 h2 h20 k0 k1 k2 k3 k8 d4 d6
      rcases h3 with rfl | rfl
      all_goals
        go_enter Tryz.func18, Tryz.ntmps18
        go_wp2
        go_ret
        exact ⟨by rw [← HK.out.2.2.1]; rfl, gb_refl _ _⟩
  rw [if_neg h2]
  have d20 : decide (op ≤ 20) = false := decide_eq_false (by omega)
  have e22 : (op == 22) = false := beq_eq_false_iff_ne.2 (by omega)
  have e23 : (op == 23) = false := beq_eq_false_iff_ne.2 (by omega)
  by_cases h21 : op = 21
  · subst h21
    rw [if_pos rfl]
    clear h4 h6 h2 k0 k1 k2 k3 k8 d4 d6 d20 e22 e23
    go_enter Tryz.func18, Tryz.ntmps18
    go_wp2
    go_ret
    exact ⟨by rw [← HK.out.2.2.2.1]; rfl, gb_refl _ _⟩
  · rw [if_neg h21]
    have e21 : (op == 21) = false := beq_eq_false_iff_ne.2 h21
    clear h4 h6 h2 h21 k0 k1 k2 k3 k8
    go_enter Tryz.func18, Tryz.ntmps18
    go_wp2
    go_ret
    exact ⟨by rw [← HK.out.2.2.2.2]; rfl, gb_refl _ _⟩

theorem nd_pos {N : Nat} (h : N ≠ 0) : 0 < Zd.nd N := by unfold Zd.nd; rw [dif_neg h]; omega
theorem dig_lt (N j : Nat) : Zd.dig N j < 10 := Nat.mod_lt _ (by omega)
theorem dec_head {N : Nat} (h : N ≠ 0) : ∃ b r, Zd.decL N = b :: r ∧ 48 ≤ b.toNat ∧ b.toNat ≤ 57 := by
  have hp := nd_pos h
  have hl : (Zd.decL N).length = Zd.nd N := decL_len N
  match hD : Zd.decL N with
  | [] => rw [hD] at hl; simp at hl; omega
  | b :: r =>
    refine ⟨b, r, rfl, ?_⟩
    have hm : b ∈ Zd.decL N := by rw [hD]; simp
    unfold Zd.decL at hm
    obtain ⟨j, -, rfl⟩ := List.mem_map.1 hm
    have := dig_lt N (Zd.nd N - 1 - j)
    rw [UInt8.toNat_ofNat']
    omega
theorem txt_head (Z : Int) : ∃ b r, Zd.txtL Z = b :: r ∧ (b = 45 ↔ Z < 0) := by
  unfold Zd.txtL
  by_cases h0 : Z = 0
  · subst h0; exact ⟨48, [], rfl, by decide⟩
  rw [if_neg h0]
  by_cases h1 : Z < 0
  · rw [if_pos h1]; exact ⟨45, _, rfl, by simp [h1]⟩
  · rw [if_neg h1]
    obtain ⟨b, r, h, h2, -⟩ := dec_head (N := Z.natAbs) (by omega)
    exact ⟨b, r, h, fun e => by (subst e; exact absurd h2 (by decide)), fun e => absurd e h1⟩
theorem txt_none (Z : Int) : Zd.txtL Z = [48] ↔ Z = 0 := by
  constructor
  · intro h
    unfold Zd.txtL at h
    by_cases h0 : Z = 0
    · exact h0
    rw [if_neg h0] at h
    by_cases h1 : Z < 0
    · rw [if_pos h1] at h; simp at h
    · rw [if_neg h1] at h
      have hl := decL_len Z.natAbs
      rw [h] at hl
      have hl : Zd.nd Z.natAbs = 1 := hl.symm
      unfold Zd.decL at h
      rw [hl] at h
      simp only [List.range_one, List.map_cons, List.map_nil, List.cons.injEq, and_true] at h
      have h2 := congrArg UInt8.toNat h
      have h3 := dig_lt Z.natAbs (1 - 1 - 0)
      rw [UInt8.toNat_ofNat'] at h2
      have h4 := Zd.nd_lt Z.natAbs
      rw [hl] at h4
      have h5 : Zd.dig Z.natAbs (1 - 1 - 0) = Z.natAbs := by unfold Zd.dig; simp; omega
      rw [h5] at h2 h3
      have : (48 : UInt8).toNat = 48 := rfl
      omega
  · intro h; subst h; rfl
end Go.Proofs.YtccokidhngdjnaaGreatDoor
