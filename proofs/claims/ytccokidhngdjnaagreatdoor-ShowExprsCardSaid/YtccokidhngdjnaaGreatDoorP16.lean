/- Lemmas. -/
import Derived.Test.YtccokidhngdjnaaGreatDoorP14
import Derived.Test.YtccokidhngdjnaaGreatDoorP18
import Derived.Test.YtccokidhngdjnaaGreatDoorP23
set_option linter.unusedVariables false
set_option linter.unusedSimpArgs false
namespace Go.Proofs.YtccokidhngdjnaaGreatDoor

structure St where
  i : Nat
  inn : Bool
  e : Nat
  pos : Nat
abbrev RQ := List UInt8 × St

def tokQ (T : List Tok) (s : St) : Tok := T[s.i]?.getD ⟨5, [], [], 0⟩
def failQ (T : List Tok) (n : Nat) (s : St) : St := if s.e = 0 then { s with e := n, pos := (tokQ T s).pos } else s
def isQ (T : List Tok) (w : List UInt8) (s : St) : Bool := decide (s.e = 0 ∧ ((tokQ T s).kind = 2 ∨ (tokQ T s).kind = 4) ∧ (tokQ T s).text = w)
def leafQ (T : List Tok) (s : St) : RQ := if (tokQ T s).kind = 5 then ([32, 36], s) else (32 :: (tokQ T s).text, { s with i := s.i + 1 })
def mustQ (T : List Tok) (w : List UInt8) (s : St) : RQ := if isQ T w s = true then leafQ T s else ([], failQ T 22 s)
def kindQ (T : List Tok) (k : Nat) (s : St) : RQ := if s.e = 0 ∧ (tokQ T s).kind = k then leafQ T s else ([], failQ T 22 s)
def nestQ (T : List Tok) (D n : Nat) (s : St) : St := if D < n then failQ T 23 s else s

/-- A row: what stands ahead, then each sign and what is behind it. -/
def rowQ (T : List Tok) (c : St → Bool) (sub : St → RQ) : Nat → RQ → RQ
  | 0, r => r
  | f + 1, r => if c r.2 = true then
      rowQ T c sub f ([32, 40, 49, 48] ++ r.1 ++ (leafQ T r.2).1 ++ (sub (leafQ T r.2).2).1 ++ [41], (sub (leafQ T r.2).2).2)
    else r
/-- Parts with commas between them: k have come. -/
def partsQ (T : List Tok) (sub : St → RQ) : Nat → Nat → RQ → RQ
  | 0, _, r => r
  | f + 1, k, r => if isQ T [44] r.2 = true then
      let l := leafQ T r.2
      let s := if k = 8 then failQ T 15 l.2 else l.2
      partsQ T sub f (k + 1) (r.1 ++ l.1 ++ (sub s).1, (sub s).2)
    else r

/-- What is nested by one more. -/
structure Nx where
  expr : St → RQ
  formula : St → RQ
  nots : St → RQ
  factor : St → RQ

section
variable (T : List Tok) (D n : Nat) (nx : Nx)
def fuelQ (s : St) : Nat := T.length - s.i + 1
def argsQ (s : St) : RQ := partsQ T nx.expr (fuelQ T (nx.expr s).2) 1 (nx.expr s)
def nameB (a : RQ) : RQ := if isQ T [46] a.2 = true then (a.1 ++ (leafQ T a.2).1 ++ (kindQ T 1 (leafQ T a.2).2).1, (kindQ T 1 (leafQ T a.2).2).2) else a
def nameC (b : RQ) : RQ := (b.1 ++ (mustQ T [40] b.2).1, (mustQ T [40] b.2).2)
def nameD (c : RQ) : RQ := if isQ T [41] c.2 = true then c else (c.1 ++ (argsQ T nx c.2).1, (argsQ T nx c.2).2)
def nameE (d : RQ) : RQ := ([32, 40, 49, 51] ++ d.1 ++ (mustQ T [41] d.2).1 ++ [41], (mustQ T [41] d.2).2)
def nameQ (s : St) : RQ :=
  if (leafQ T s).2.inn = true ∨ (isQ T [46] (leafQ T s).2 = false ∧ isQ T [40] (leafQ T s).2 = false) then ([32, 40, 49, 52] ++ (leafQ T s).1 ++ [41], (leafQ T s).2)
  else nameE T (nameD T nx (nameC T (nameB T (leafQ T s))))
def atomQ (s : St) : RQ :=
  if s.e ≠ 0 then ([], s)
  else if (tokQ T s).kind = 3 then ([32, 40, 49, 53] ++ (leafQ T s).1 ++ [41], (leafQ T s).2)
  else if isQ T [116, 114, 117, 101] s = true ∨ isQ T [102, 97, 108, 115, 101] s = true then ([32, 40, 49, 54] ++ (leafQ T s).1 ++ [41], (leafQ T s).2)
  else if s.inn = true ∧ isQ T [114, 101, 115] s = true then ([32, 40, 49, 55] ++ (leafQ T s).1 ++ [41], (leafQ T s).2)
  else if isQ T [40] s = true then
    let l := leafQ T s
    let b := nx.expr l.2
    let c := mustQ T [41] b.2
    ([32, 40, 49, 50] ++ l.1 ++ b.1 ++ c.1 ++ [41], c.2)
  else if (tokQ T s).kind = 1 then nameQ T nx s
  else ([], failQ T 22 s)
/-- A sign ahead of what is nested. -/
def signQ (sub : St → RQ) (s : St) : RQ :=
  let l := leafQ T s
  let t := nestQ T D (n + 1) l.2
  if t.e ≠ 0 then ([], t) else ([32, 40, 49, 49] ++ l.1 ++ (sub t).1 ++ [41], (sub t).2)
def factorQ (s : St) : RQ := if isQ T [45] s = true then signQ T D n nx.factor s else atomQ T nx s
def isMul (s : St) : Bool := isQ T [42] s || isQ T [47] s || isQ T [37] s
def isAdd (s : St) : Bool := isQ T [43] s || isQ T [45] s
def isCmp (s : St) : Bool := isQ T [61] s || isQ T [60, 62] s || isQ T [60] s || isQ T [60, 61] s || isQ T [62] s || isQ T [62, 61] s
def productQ (s : St) : RQ := rowQ T (isMul T) (factorQ T D n nx) (fuelQ T (factorQ T D n nx s).2) (factorQ T D n nx s)
def sumQ (s : St) : RQ := rowQ T (isAdd T) (productQ T D n nx) (fuelQ T (productQ T D n nx s).2) (productQ T D n nx s)
def notQ (s : St) : RQ :=
  if isQ T [110, 111, 116] s = true then signQ T D n nx.nots s
  else
    let a := sumQ T D n nx s
    if isCmp T a.2 = true then
      let l := leafQ T a.2
      let b := sumQ T D n nx l.2
      ([32, 40, 49, 48] ++ a.1 ++ l.1 ++ b.1 ++ [41], b.2)
    else a
def andQ (s : St) : RQ := rowQ T (isQ T [38, 38]) (notQ T D n nx) (fuelQ T (notQ T D n nx s).2) (notQ T D n nx s)
def orQ (s : St) : RQ := rowQ T (isQ T [124, 124]) (andQ T D n nx) (fuelQ T (andQ T D n nx s).2) (andQ T D n nx s)
def formulaQ (s : St) : RQ :=
  let a := orQ T D n nx s
  if isQ T [61, 62] a.2 = true then
    let l := leafQ T a.2
    let t := nestQ T D (n + 1) l.2
    if t.e ≠ 0 then ([], t) else ([32, 40, 49, 48] ++ a.1 ++ l.1 ++ (nx.formula t).1 ++ [41], (nx.formula t).2)
  else a
def letQ (s : St) : RQ :=
  let l := leafQ T s
  let k := kindQ T 1 l.2
  let q := mustQ T [61] k.2
  let a := nx.expr q.2
  let i := mustQ T [105, 110] a.2
  let b := nx.expr i.2
  ([32, 40, 55] ++ l.1 ++ k.1 ++ q.1 ++ a.1 ++ i.1 ++ b.1 ++ [41], b.2)
def ifQ (s : St) : RQ :=
  let l := leafQ T s
  let a := nx.expr l.2
  let t := mustQ T [116, 104, 101, 110] a.2
  let b := nx.expr t.2
  let e := mustQ T [101, 108, 115, 101] b.2
  let c := nx.expr e.2
  ([32, 40, 56] ++ l.1 ++ a.1 ++ t.1 ++ b.1 ++ e.1 ++ c.1 ++ [41], c.2)
def assertQ (s : St) : RQ :=
  let l := leafQ T s
  let a := nx.expr l.2
  let i := mustQ T [105, 110] a.2
  let b := nx.expr i.2
  ([32, 40, 57] ++ l.1 ++ a.1 ++ i.1 ++ b.1 ++ [41], b.2)
def exprQ (s : St) : RQ :=
  let t := nestQ T D n s
  if t.e ≠ 0 then ([], t)
  else if t.inn = false ∧ isQ T [108, 101, 116] t = true then letQ T nx t
  else if t.inn = false ∧ isQ T [105, 102] t = true then ifQ T nx t
  else if t.inn = false ∧ isQ T [97, 115, 115, 101, 114, 116] t = true then assertQ T nx t
  else formulaQ T D n nx t
end

/-- All that is nested by n or more, where d = D + 1 - n. -/
def nxQ (T : List Tok) (D : Nat) : Nat → Nx
  | 0 => { expr := fun s => ([], nestQ T D (D + 1) s), formula := fun s => ([], s), nots := fun s => ([], s), factor := fun s => ([], s) }
  | d + 1 => { expr := exprQ T D (D - d) (nxQ T D d), formula := formulaQ T D (D - d) (nxQ T D d), nots := notQ T D (D - d) (nxQ T D d), factor := factorQ T D (D - d) (nxQ T D d) }

/-! ### How long answers are -/

/-- Each token that is used has room for what is written of it and for what is written about it. -/
def roomQ (T : List Tok) (i : Nat) : Nat := ((T.take i).map fun t => t.text.length + 8).sum
theorem room_next (T : List Tok) {i : Nat} {t : Tok} (h : T[i]? = some t) : roomQ T (i + 1) = roomQ T i + (t.text.length + 8) := by
  unfold roomQ; rw [List.take_add_one, h, List.map_append, List.sum_append]; simp
theorem fail_i (T : List Tok) (n : Nat) (s : St) : (failQ T n s).i = s.i := by unfold failQ; split <;> rfl
theorem nest_i (T : List Tok) (D n : Nat) (s : St) : (nestQ T D n s).i = s.i := by unfold nestQ; split; exact fail_i T 23 s; rfl
theorem leaf_fits {T : List Tok} {s : St} (h : (tokQ T s).kind ≠ 5) : (leafQ T s).1.length + 7 + roomQ T s.i ≤ roomQ T (leafQ T s).2.i ∧ (leafQ T s).2.i = s.i + 1 := by
  unfold leafQ
  rw [if_neg h]
  cases ht : T[s.i]? with
  | none => exact absurd (by unfold tokQ; rw [ht]; rfl) h
  | some t =>
    have h1 : tokQ T s = t := by unfold tokQ; rw [ht]; rfl
    rw [h1, room_next T ht]
    refine ⟨?_, rfl⟩
    simp only [List.length_cons]; omega
theorem is_kind {T : List Tok} {w : List UInt8} {s : St} (h : isQ T w s = true) : (tokQ T s).kind ≠ 5 ∧ s.e = 0 := by
  unfold isQ at h
  have := of_decide_eq_true h
  omega
end Go.Proofs.YtccokidhngdjnaaGreatDoor
namespace Go.Proofs.YtccokidhngdjnaaGreatDoor
open Go.RowKit

def fbT (ys : Bool) : List UInt8 := if ys then [116, 114, 117, 101] else [102, 97, 108, 115, 101]
set_option maxRecDepth 100000 in
set_option maxHeartbeats 16000000 in
theorem bare_lit (S : Nat → Prop) (B b : Nat) (rows : List (List Value)) (fg fo : Nat) (nu : Int) (s : Bool) (pw : Option Addr) (nw cw : Nat) (w : World) (h : WrAt S B b w rows) (hl : rows.length ≤ 700000)
    (c0 : w.cell? ⟨fg, fo, none⟩ = some (.int .i64 1)) (c3 : w.cell? ⟨fg, fo + 3, none⟩ = some (.bool s)) (c4 : w.cell? ⟨fg, fo + 4, none⟩ = some (.slice pw nw cw)) (hi : Zd.IsInt w (.agg #[.bool s, .slice pw nw cw]) nu) (hZ : nu.natAbs < Zd.Lim) :
    Calls Tryz.prog 74 #[.pointer (some ⟨b, 0, none⟩), .pointer (some ⟨fg, fo, none⟩)] w (PcPost S B b (rows ++ [rowB (Zd.txtL nu)]) w) := by
  have HPUT := Lib.hid (fun rows s W h h2 => put_c9 S B b rows s W h h2)
  have HT := Lib.hid (Zd.String_c _ nu w hi hZ)
  have HW := Lib.hid h; have HL := Lib.hid hl
  have c4' : w.cell? ⟨fg, fo + 3 + 1, none⟩ = some (.slice pw nw cw) := c4
  obtain ⟨TX, hTX⟩ : ∃ z, Zd.txtL nu = z := ⟨_, rfl⟩
  have HV : Hid (Zd.txt nu = .string ⟨TX.toArray⟩) := Lib.hid (by unfold Zd.txt; rw [hTX])
  rw [hTX]
  clear h hl hi hZ hTX
  go_enter Tryz.func74, Tryz.ntmps74
  go_wp2_with fail
  refine HT.out.mono ?_
  rintro e w1 ⟨rfl, hg⟩
  rw [HV.out]
  have HG := Lib.hid hg
  clear hg
  go_wp2_with fail
  refine (HPUT.out _ _ w1 (HW.out.kept HG.out) (by have := HL.out; omega)).mono ?_
  rintro e w2 ⟨rfl, hw2, hf2⟩
  have HW2 := Lib.hid hw2; have HF2 := Lib.hid ((Fr2.none HG.out).trans hf2)
  clear hw2 hf2
  go_wp2_with fail
  go_end0
  exact ⟨rfl, HW2.out, HF2.out⟩
set_option maxRecDepth 100000 in
set_option maxHeartbeats 16000000 in
theorem bare_truth (S : Nat → Prop) (B b : Nat) (rows : List (List Value)) (fg fo : Nat) (ys : Bool) (w : World) (h : WrAt S B b w rows) (hl : rows.length ≤ 700000)
    (c0 : w.cell? ⟨fg, fo, none⟩ = some (.int .i64 2)) (c5 : w.cell? ⟨fg, fo + 5, none⟩ = some (.bool ys)) :
    Calls Tryz.prog 74 #[.pointer (some ⟨b, 0, none⟩), .pointer (some ⟨fg, fo, none⟩)] w (PcPost S B b (rows ++ [rowB (fbT ys)]) w) := by
  have HP := Lib.hid (put_c9 S B b rows ⟨(fbT ys).toArray⟩ w h (by omega))
  have HFB : Hid (Calls Tryz.prog 105 #[.bool ys] w fun e w' => e = .returned (.string ⟨(fbT ys).toArray⟩) ∧ w' = w) := Lib.hid (by
    have h := Tryz.strconv_FormatBool ys w
    have e : Lib.formatBool ys = fbT ys := by cases ys <;> rfl
    rw [e] at h; exact h)
  clear h hl
  go_enter Tryz.func74, Tryz.ntmps74
  go_wp2_with fail
  refine HFB.out.mono ?_
  rintro e w1 ⟨rfl, rfl⟩
  go_wp2_with fail
  refine HP.out.mono ?_
  rintro e w2 ⟨rfl, hw2, hf2⟩
  have HW2 := Lib.hid hw2; have HF2 := Lib.hid hf2
  clear hw2 hf2
  go_wp2_with fail
  go_end0
  exact ⟨rfl, HW2.out, HF2.out⟩
set_option maxRecDepth 100000 in
set_option maxHeartbeats 16000000 in
theorem bare_word (S : Nat → Prop) (B b : Nat) (rows : List (List Value)) (fg fo : Nat) (nm : List UInt8) (op : Int) (hop : op = 3 ∨ op = 4) (w : World) (h : WrAt S B b w rows) (hl : rows.length ≤ 700000)
    (c0 : w.cell? ⟨fg, fo, none⟩ = some (.int .i64 op)) (c1 : w.cell? ⟨fg, fo + 1, none⟩ = some (.string ⟨nm.toArray⟩)) :
    Calls Tryz.prog 74 #[.pointer (some ⟨b, 0, none⟩), .pointer (some ⟨fg, fo, none⟩)] w (PcPost S B b (rows ++ [rowB (if op = 3 then nm else [114, 101, 115])]) w) := by
  have HP := Lib.hid (fun s => put_c9 S B b rows s w h (by omega))
  clear h hl
  rcases hop with rfl | rfl
  all_goals
    go_enter Tryz.func74, Tryz.ntmps74
    go_wp2_with fail
    refine (HP.out _).mono ?_
    rintro e w2 ⟨rfl, hw2, hf2⟩
    have HW2 := Lib.hid hw2; have HF2 := Lib.hid hf2
    clear hw2 hf2
    go_wp2_with fail
    go_end0
    exact ⟨rfl, HW2.out, HF2.out⟩
set_option maxRecDepth 100000 in
set_option maxHeartbeats 16000000 in
theorem bare_one (S : Nat → Prop) (B b : Nat) (rows : List (List Value)) (fg fo gk ok ck : Nat) (op : Int) (hop : op = 5 ∨ op = 6) (w : World) (h : WrAt S B b w rows) (hl : rows.length ≤ 700000) (hSf : S fg)
    (c0 : w.cell? ⟨fg, fo, none⟩ = some (.int .i64 op)) (c6 : w.cell? ⟨fg, fo + 6, none⟩ = some (.slice (some ⟨gk, ok, none⟩) 1 ck)) :
    Calls Tryz.prog 74 #[.pointer (some ⟨b, 0, none⟩), .pointer (some ⟨fg, fo, none⟩)] w (PcPost S B b (rows ++ [rowB (if op = 5 then [45] else [110, 111, 116, 32]), rowX gk ok (if op = 5 then 9 else 4)]) w) := by
  have HP := Lib.hid (fun s => put_c9 S B b rows s w h (by omega))
  have HEXP := Lib.hid (fun rows a (l : Int) W h h2 => expr_c9 S B b rows a l W h h2)
  have hfgw : fg < w.heap.size := by obtain ⟨v, -, -, -, -, -, -, hh⟩ := h; exact hh _ hSf
  have HKP : Hid (∀ W', Fr2 (fun k => ¬ S k) w W' → W'.cell? ⟨fg, fo + 6, none⟩ = some (.slice (some ⟨gk, ok, none⟩) 1 ck) ∧ fg < W'.heap.size) := Lib.hid (fun W' hf =>
    ⟨by rw [World.cell?_of_block (w := w) (hf.block fg hfgw (fun e => e hSf))]; exact c6, Nat.lt_of_lt_of_le hfgw hf.size⟩)
  have HL := Lib.hid hl
  clear h hl hSf
  rcases hop with rfl | rfl
  all_goals
    go_enter Tryz.func74, Tryz.ntmps74
    go_wp2_with fail
    refine (HP.out _).mono ?_
    rintro e w2 ⟨rfl, hw2, hf2⟩
    have HW2 := Lib.hid hw2; have HF2 := Lib.hid hf2
    obtain ⟨c6, hfw⟩ := HKP.out _ HF2.out
    clear hw2 hf2
    go_wp2_with fail
    refine (HEXP.out _ _ _ w2 HW2.out (by have h := HL.out; simp only [List.length_append, List.length_cons, List.length_nil]; omega)).mono ?_
    rintro e w3 ⟨rfl, hw3, hf3⟩
    simp only [List.append_assoc, List.cons_append, List.nil_append] at hw3
    have HW3 := Lib.hid hw3; have HF3 := Lib.hid (HF2.out.trans hf3)
    clear hw3 hf3
    go_wp2_with fail
    go_end0
    exact ⟨rfl, HW3.out, HF3.out⟩

set_option maxRecDepth 100000 in
set_option maxHeartbeats 16000000 in
theorem bare_call (S : Nat → Prop) (B b : Nat) (rows : List (List Value)) (fg fo gk ok n ck : Nat) (pk : Option Addr) (nm md : List UInt8) (w : World) (h : WrAt S B b w rows) (hl : rows.length ≤ 700000) (hn : n ≤ 8) (hnl : nm.length ≤ 60000) (hml : md.length ≤ 60000) (hSf : S fg) (hpk : 0 < n → pk = some ⟨gk, ok, none⟩)
    (c0 : w.cell? ⟨fg, fo, none⟩ = some (.int .i64 24)) (c1 : w.cell? ⟨fg, fo + 1, none⟩ = some (.string ⟨nm.toArray⟩)) (c2 : w.cell? ⟨fg, fo + 2, none⟩ = some (.string ⟨md.toArray⟩)) (c6 : w.cell? ⟨fg, fo + 6, none⟩ = some (.slice pk n ck)) :
    Calls Tryz.prog 74 #[.pointer (some ⟨b, 0, none⟩), .pointer (some ⟨fg, fo, none⟩)] w (PcPost S B b (rows ++ callR nm md gk ok n) w) := by
  have HC := Lib.hid (call_c9 S B b rows fg fo gk ok n ck pk nm md w h (by omega) hn hnl hml hSf hpk c1 c2 c6)
  clear h hl hn hnl hml hSf hpk c1 c2 c6
  go_enter Tryz.func74, Tryz.ntmps74
  go_wp2_with fail
  refine HC.out.mono ?_
  rintro e w2 ⟨rfl, hw2, hf2⟩
  have HW2 := Lib.hid hw2; have HF2 := Lib.hid hf2
  clear hw2 hf2
  go_wp2_with fail
  go_end0
  exact ⟨rfl, HW2.out, HF2.out⟩
set_option maxRecDepth 100000 in
set_option maxHeartbeats 16000000 in
theorem bare_signed (S : Nat → Prop) (B b : Nat) (rows : List (List Value)) (fg fo gk ok ck j : Nat) (sg : List UInt8) (w : World) (h : WrAt S B b w rows) (hl : rows.length ≤ 700000) (hj : signs9[j]? = some sg) (hSf : S fg) (hSg : S 3) (hla : LaidW w)
    (c0 : w.cell? ⟨fg, fo, none⟩ = some (.int .i64 ((7 + j : Nat) : Int))) (c6 : w.cell? ⟨fg, fo + 6, none⟩ = some (.slice (some ⟨gk, ok, none⟩) 2 ck)) :
    Calls Tryz.prog 74 #[.pointer (some ⟨b, 0, none⟩), .pointer (some ⟨fg, fo, none⟩)] w (PcPost S B b (rows ++ [rowX gk ok (sideA (levS ((7 + j : Nat) : Int)) : Nat), rowB ([32] ++ sg ++ [32]), rowX gk (ok + 8) (sideB (levS ((7 + j : Nat) : Int)) : Nat)]) w) := by
  have hj14 : j < 14 := (List.getElem?_eq_some_iff.1 hj).1
  have HC := Lib.hid (signed_c9 S B b rows fg fo gk ok ck j sg w h (by omega) hj hSf hSg hla c0 c6)
  obtain ⟨op, hop⟩ : ∃ op : Int, ((7 + j : Nat) : Int) = op := ⟨_, rfl⟩
  rw [hop] at c0 HC ⊢
  have e1 : (op == 1) = false := beq_eq_false_iff_ne.2 (by omega)
  have e2 : (op == 2) = false := beq_eq_false_iff_ne.2 (by omega)
  have e3 : (op == 3) = false := beq_eq_false_iff_ne.2 (by omega)
  have e4 : (op == 4) = false := beq_eq_false_iff_ne.2 (by omega)
  have e5 : (op == 5) = false := beq_eq_false_iff_ne.2 (by omega)
  have e6 : (op == 6) = false := beq_eq_false_iff_ne.2 (by omega)
  have e7 : (op == 21) = false := beq_eq_false_iff_ne.2 (by omega)
  have e8 : (op == 22) = false := beq_eq_false_iff_ne.2 (by omega)
  have e9 : (op == 23) = false := beq_eq_false_iff_ne.2 (by omega)
  have e10 : (op == 24) = false := beq_eq_false_iff_ne.2 (by omega)
  clear h hl hj hSf hSg hla c6 hj14 hop
  go_enter Tryz.func74, Tryz.ntmps74
  go_wp2_with fail
  refine HC.out.mono ?_
  rintro e w2 ⟨rfl, hw2, hf2⟩
  have HW2 := Lib.hid hw2; have HF2 := Lib.hid hf2
  clear hw2 hf2
  go_wp2_with fail
  go_end0
  exact ⟨rfl, HW2.out, HF2.out⟩

/-- Parts whose row of pieces ahead is laid anew. -/
theorem parts_new (S : Nat → Prop) (B b : Nat) (rows : List (List Value)) (fg fo gk ok kn ck m cs : Nat) (A : List (List UInt8)) (vs : Array Value) (w : World) (h : WrAt S B b w rows) (hl : rows.length ≤ 700000) (hA : A.length = m) (hm : m ≤ kn) (hk : kn ≤ 1000000) (hm9 : m ≤ 9) (hvs : vs = (A.map strV).toArray)
    (c6 : w.cell? ⟨fg, fo + 6, none⟩ = some (.slice (some ⟨gk, ok, none⟩) kn ck)) (hSf : S fg) :
    Calls Tryz.prog 106 #[.pointer (some ⟨b, 0, none⟩), .pointer (some ⟨fg, fo, none⟩), .slice (some ⟨w.heap.size, 0, none⟩) m cs] (w.alloc (.cells vs 9)) (PcPost S B b (rows ++ partsR gk ok 0 A) w) := by
  have hHS : ∀ k, S k → k < w.heap.size := by obtain ⟨v, -, -, -, -, -, -, hh⟩ := h; exact hh
  have hg := World.grownBy_alloc w (.cells vs 9) none
  have hA0 := heap_alloc_new w (.cells vs 9)
  have hsz : (w.alloc (.cells vs 9)).heap.size = w.heap.size + 1 := by simp
  have hW := h.more hg (Nat.le_refl _) (by rw [hsz]; omega)
  have d6 := hg.cell c6 (by have := hHS _ hSf; simp)
  generalize (w.alloc (.cells vs 9)) = W at *
  refine (parts_c9 (fun k => S k ∨ k = w.heap.size) B b rows fg fo gk ok kn ck w.heap.size 0 m cs A W hW (by omega) hA hm hk hm9 d6 (.inl hSf) (.inr rfl) (fun i l hi => ?_)).mono ?_
  · rw [cell_of_row W w.heap.size (0 + i) _ _ (0, 0) hA0, hvs]
    simp [hi]
  · rintro e w2 ⟨rfl, hw2, hf2⟩
    exact ⟨rfl, hw2.less, (Fr2.none hg).trans (hf2.mono (fun k hk e => hk (.inl e)))⟩
set_option maxRecDepth 100000 in
set_option maxHeartbeats 16000000 in
theorem bare_if (S : Nat → Prop) (B b : Nat) (rows : List (List Value)) (fg fo gk ok ck : Nat) (w : World) (h : WrAt S B b w rows) (hl : rows.length ≤ 700000) (hSf : S fg)
    (c0 : w.cell? ⟨fg, fo, none⟩ = some (.int .i64 21)) (c6 : w.cell? ⟨fg, fo + 6, none⟩ = some (.slice (some ⟨gk, ok, none⟩) 3 ck)) :
    Calls Tryz.prog 74 #[.pointer (some ⟨b, 0, none⟩), .pointer (some ⟨fg, fo, none⟩)] w (PcPost S B b (rows ++ partsR gk ok 0 [[105, 102, 32], [32, 116, 104, 101, 110, 32], [32, 101, 108, 115, 101, 32]]) w) := by
  have HP := Lib.hid (parts_new S B b rows fg fo gk ok 3 ck 3 3 [[105, 102, 32], [32, 116, 104, 101, 110, 32], [32, 101, 108, 115, 101, 32]] _ w h hl rfl (by omega) (by omega) (by omega) rfl c6 hSf)
  clear h hl hSf c6
  go_enter Tryz.func74, Tryz.ntmps74
  go_wp2_with fail
  refine HP.out.mono ?_
  rintro e w2 ⟨rfl, hw2, hf2⟩
  have HW2 := Lib.hid hw2; have HF2 := Lib.hid hf2
  clear hw2 hf2
  go_wp2_with fail
  go_end0
  exact ⟨rfl, HW2.out, HF2.out⟩
set_option maxRecDepth 100000 in
set_option maxHeartbeats 16000000 in
theorem bare_assert (S : Nat → Prop) (B b : Nat) (rows : List (List Value)) (fg fo gk ok ck : Nat) (w : World) (h : WrAt S B b w rows) (hl : rows.length ≤ 700000) (hSf : S fg)
    (c0 : w.cell? ⟨fg, fo, none⟩ = some (.int .i64 23)) (c6 : w.cell? ⟨fg, fo + 6, none⟩ = some (.slice (some ⟨gk, ok, none⟩) 2 ck)) :
    Calls Tryz.prog 74 #[.pointer (some ⟨b, 0, none⟩), .pointer (some ⟨fg, fo, none⟩)] w (PcPost S B b (rows ++ partsR gk ok 0 [[97, 115, 115, 101, 114, 116, 32], [32, 105, 110, 32]]) w) := by
  have HP := Lib.hid (parts_new S B b rows fg fo gk ok 2 ck 2 2 [[97, 115, 115, 101, 114, 116, 32], [32, 105, 110, 32]] _ w h hl rfl (by omega) (by omega) (by omega) rfl c6 hSf)
  clear h hl hSf c6
  go_enter Tryz.func74, Tryz.ntmps74
  go_wp2_with fail
  refine HP.out.mono ?_
  rintro e w2 ⟨rfl, hw2, hf2⟩
  have HW2 := Lib.hid hw2; have HF2 := Lib.hid hf2
  clear hw2 hf2
  go_wp2_with fail
  go_end0
  exact ⟨rfl, HW2.out, HF2.out⟩
theorem cat_let (l : List UInt8) : ((⟨#[108, 101, 116, 32]⟩ : ByteArray) ++ (⟨l.toArray⟩ : ByteArray) ++ (⟨#[32, 61, 32]⟩ : ByteArray)) = ⟨([108, 101, 116, 32] ++ l ++ [32, 61, 32]).toArray⟩ := by
  apply ByteArray.ext
  rw [ByteArray.data_append, ByteArray.data_append]
  apply Array.toList_inj.1
  simp
set_option maxRecDepth 100000 in
set_option maxHeartbeats 16000000 in
theorem bare_let (S : Nat → Prop) (B b : Nat) (rows : List (List Value)) (fg fo gk ok ck : Nat) (nm : List UInt8) (w : World) (h : WrAt S B b w rows) (hl : rows.length ≤ 700000) (hnl : nm.length ≤ 60000) (hSf : S fg)
    (c0 : w.cell? ⟨fg, fo, none⟩ = some (.int .i64 22)) (c1 : w.cell? ⟨fg, fo + 1, none⟩ = some (.string ⟨nm.toArray⟩)) (c6 : w.cell? ⟨fg, fo + 6, none⟩ = some (.slice (some ⟨gk, ok, none⟩) 2 ck)) :
    Calls Tryz.prog 74 #[.pointer (some ⟨b, 0, none⟩), .pointer (some ⟨fg, fo, none⟩)] w (PcPost S B b (rows ++ partsR gk ok 0 [[108, 101, 116, 32] ++ nm ++ [32, 61, 32], [32, 105, 110, 32]]) w) := by
  have HP := Lib.hid (parts_new S B b rows fg fo gk ok 2 ck 2 2 [[108, 101, 116, 32] ++ nm ++ [32, 61, 32], [32, 105, 110, 32]] #[.string ((⟨#[108, 101, 116, 32]⟩ : ByteArray) ++ (⟨nm.toArray⟩ : ByteArray) ++ (⟨#[32, 61, 32]⟩ : ByteArray)), .string ⟨#[32, 105, 110, 32]⟩] w h hl rfl (by omega) (by omega) (by omega) (by rw [cat_let]; rfl) c6 hSf)
  have z4 : ¬ 9223372036854775807 < 4 + nm.length := by omega
  have z5 : ¬ 9223372036854775807 < 4 + nm.length + 3 := by omega
  have z6 : ¬ 9223372036854775807 < nm.length + 4 := by omega
  have z7 : ¬ 9223372036854775807 < nm.length + 4 + 3 := by omega
  have z8 : ¬ 9223372036854775807 < nm.length + 7 := by omega
  clear h hl hSf c6 hnl
  go_enter Tryz.func74, Tryz.ntmps74
  go_wp2_with fail
  refine HP.out.mono ?_
  rintro e w2 ⟨rfl, hw2, hf2⟩
  have HW2 := Lib.hid hw2; have HF2 := Lib.hid hf2
  clear hw2 hf2
  go_wp2_with fail
  go_end0
  exact ⟨rfl, HW2.out, HF2.out⟩

def PcAt (F : Nat → Prop) (w : World) : Pc → List Value → Prop
  | .bs l, r => r = rowB l
  | .ex x least, r => ∃ g o q, r = rowX g o ((least : Nat) : Int) ∧ F g ∧ g < w.heap.size ∧ SAt F w x q ∧ ∀ i v, q[i]? = some v → w.cell? ⟨g, o + i, none⟩ = some v
def PcsAt (F : Nat → Prop) (w : World) : List Pc → List (List Value) → Prop
  | [], r => r = []
  | p :: l, r => ∃ q r', r = q :: r' ∧ PcAt F w p q ∧ PcsAt F w l r'
theorem PcAt.same {F S : Nat → Prop} {w w' : World} (hg : Fr2 S w w') (hS : ∀ k, F k → ¬ S k) {p : Pc} {r : List Value} (h : PcAt F w p r) : PcAt F w' p r := by
  cases p with
  | bs l => exact h
  | ex x least =>
    obtain ⟨g, o, q, h1, h2, h3, h4, h5⟩ := h
    exact ⟨g, o, q, h1, h2, Nat.lt_of_lt_of_le h3 hg.size, h4.same hg hS, fun i v hi => by rw [World.cell?_of_block (w := w) (hg.block g h3 (hS _ h2))]; exact h5 i v hi⟩
theorem PcsAt.same {F S : Nat → Prop} {w w' : World} (hg : Fr2 S w w') (hS : ∀ k, F k → ¬ S k) : ∀ {l : List Pc} {r : List (List Value)}, PcsAt F w l r → PcsAt F w' l r
  | [], r, h => h
  | p :: l, r, h => by
    obtain ⟨q, r', h1, h2, h3⟩ := h
    exact ⟨q, r', h1, h2.same hg hS, PcsAt.same hg hS h3⟩
theorem PcsAt.app {F : Nat → Prop} {w : World} : ∀ {l l2 : List Pc} {r r2 : List (List Value)}, PcsAt F w l r → PcsAt F w l2 r2 → PcsAt F w (l ++ l2) (r ++ r2)
  | [], l2, r, r2, h, h2 => by have h : r = [] := h; subst h; exact h2
  | p :: l, l2, r, r2, h, h2 => by
    obtain ⟨q, r', rfl, h3, h4⟩ := h
    exact ⟨q, r' ++ r2, rfl, h3, PcsAt.app h4 h2⟩
theorem PcsAt.len {F : Nat → Prop} {w : World} : ∀ {l : List Pc} {r : List (List Value)}, PcsAt F w l r → r.length = l.length
  | [], r, h => by have h : r = [] := h; subst h; rfl
  | p :: l, r, h => by
    obtain ⟨q, r', rfl, h3, h4⟩ := h
    simp [PcsAt.len h4]
def BarePost (S F : Nat → Prop) (B b : Nat) (rows : List (List Value)) (ps : List Pc) (w : World) (e : Ending) (w' : World) : Prop := e = .returned (.tuple #[]) ∧ ∃ R, WrAt S B b w' (rows ++ R) ∧ PcsAt F w' ps R ∧ Fr2 (fun k => ¬ S k) w w'
theorem of_pc {S F : Nat → Prop} {B b : Nat} {rows R : List (List Value)} {ps : List Pc} {w w' : World} {e : Ending} (h : PcPost S B b (rows ++ R) w e w') (hp : PcsAt F w ps R) (hF : ∀ k, F k → S k) : BarePost S F B b rows ps w e w' := by
  obtain ⟨h1, h2, h3⟩ := h
  exact ⟨h1, R, h2, hp.same h3 (fun k hk e => e (hF k hk)), h3⟩
theorem kid_pc {F : Nat → Prop} {w : World} {gk ok : Nat} {ks : List Sx} {rows : List (List Value)} (hG : GAt 8 w (some ⟨gk, ok, none⟩) rows) (hl : LsS F w ks rows) (hF : F gk) (hfl : Flat w gk) {j : Nat} {x : Sx} (hx : ks[j]? = some x) (least : Nat) : PcAt F w (.ex x least) (rowX gk (ok + j * 8) ((least : Nat) : Int)) := by
  obtain ⟨q, hq, hx2⟩ := hl.get hx
  have hgw : gk < w.heap.size := by obtain ⟨cs, T, h⟩ := hfl; exact hlt h
  rcases hG with h | ⟨g, off, he, -, hc⟩
  · subst h; simp at hq
  · simp only [Option.some.injEq, Addr.mk.injEq, and_true] at he
    obtain ⟨rfl, rfl⟩ := he
    exact ⟨gk, ok + j * 8, q, rfl, hF, hgw, hx2, fun i v hi => hc j q hq i v hi⟩
theorem getD_some {ks : List Sx} {j : Nat} (h : j < ks.length) : ks[j]? = some (ks.getD j nilS) := by
  rw [List.getD_eq_getElem?_getD, List.getElem?_eq_getElem h]; rfl
theorem argsP_snoc (x : Sx) : ∀ l : List Sx, argsP (l ++ [x]) = argsP l ++ (if l.length = 0 then [] else [.bs [44, 32]]) ++ [.ex x 0]
  | [] => by simp [argsP]
  | [y] => by simp [argsP]
  | y :: z :: l => by
    have h := argsP_snoc x (z :: l)
    simp only [List.cons_append] at h ⊢
    simp only [argsP, h]
    simp
theorem args_pc {F : Nat → Prop} {w : World} {gk ok : Nat} {ks : List Sx} (hk : ∀ (j : Nat) (x : Sx), ks[j]? = some x → PcAt F w (.ex x 0) (rowX gk (ok + j * 8) 0)) : ∀ n, n ≤ ks.length → PcsAt F w (argsP (ks.take n)) (argsR [44, 32] gk ok n)
  | 0, _ => by simp [argsP, argsR, PcsAt]
  | n + 1, h => by
    have hx := getD_some (ks := ks) (j := n) (by omega)
    rw [List.take_add_one, hx]
    show PcsAt F w (argsP (ks.take n ++ [ks.getD n nilS])) _
    rw [argsP_snoc, List.length_take, Nat.min_eq_left (by omega)]
    refine PcsAt.app (PcsAt.app (args_pc hk n (by omega)) ?_) ⟨_, [], rfl, hk _ _ hx, rfl⟩
    by_cases h0 : n = 0
    · rw [if_pos h0, if_pos h0]; rfl
    · rw [if_neg h0, if_neg h0]; exact ⟨_, [], rfl, rfl, rfl⟩

set_option maxRecDepth 100000 in
theorem bare_c9 (S F : Nat → Prop) (B b : Nat) (rows : List (List Value)) (fg fo : Nat) (op : Int) (nm md : List UInt8) (nu : Int) (ys : Bool) (ks : List Sx) (ps : Int) (q : List Value) (w : World) (h : WrAt S B b w rows) (hl : rows.length ≤ 700000) (hF : ∀ k, F k → S k) (hSg : S 3) (hla : LaidW w)
    (hx : SAt F w (.mk op nm md nu ys ks ps) q) (hSf : S fg) (hc : ∀ i v, q[i]? = some v → w.cell? ⟨fg, fo + i, none⟩ = some v)
    (h1 : 1 ≤ op) (h2 : op ≤ 24) (hn : countB op ks.length = true) (hnl : nm.length ≤ 60000) (hml : md.length ≤ 60000) (hZ : nu.natAbs < Zd.Lim) :
    Calls Tryz.prog 74 #[.pointer (some ⟨b, 0, none⟩), .pointer (some ⟨fg, fo, none⟩)] w (BarePost S F B b rows (bareP (.mk op nm md nu ys ks ps)) w) := by
  simp only [SAt] at hx
  obtain ⟨s, pw, nw, cw, pk, ck, kr, rfl, hi, -, hG, hls, hk⟩ := hx
  have c0 := hc 0 _ rfl
  have c1 := hc 1 _ rfl
  have c2 := hc 2 _ rfl
  have c3 := hc 3 _ rfl
  have c4 := hc 4 _ rfl
  have c5 := hc 5 _ rfl
  have c6 := hc 6 _ rfl
  clear hc
  unfold strV at c1 c2
  have hbs : ∀ l, PcsAt F w [Pc.bs l] [rowB l] := fun l => ⟨_, [], rfl, rfl, rfl⟩
  have hone : ∀ {p : Pc} {r : List Value}, PcAt F w p r → PcsAt F w [p] [r] := fun h => ⟨_, [], rfl, h, rfl⟩
  obtain ⟨gk, ok, hpk, hkp⟩ : ∃ gk ok, (0 < ks.length → pk = some ⟨gk, ok, none⟩) ∧ ∀ (j : Nat) (x : Sx) (least : Nat), ks[j]? = some x → PcAt F w (.ex x least) (rowX gk (ok + j * 8) ((least : Nat) : Int)) := by
    by_cases h0 : ks = []
    · subst h0; exact ⟨0, 0, fun h => absurd h (by simp), fun j x least h => by simp at h⟩
    · obtain ⟨a, rfl, hFa, hfl⟩ := hk h0
      have hG0 := hG
      rcases hG with hG | ⟨g, off, he, -, -⟩
      · exact absurd (List.eq_nil_of_length_eq_zero (by rw [← hls.len, hG]; rfl)) h0
      · injection he with he
        subst he
        exact ⟨g, off, fun _ => rfl, fun j x least hx => kid_pc hG0 hls hFa hfl hx least⟩
  have hK : ∀ (j least : Nat), j < ks.length → PcAt F w (.ex (ks.getD j nilS) least) (rowX gk (ok + j * 8) ((least : Nat) : Int)) := fun j least hj => hkp j _ least (getD_some hj)
  clear hk hG hls
  unfold countB at hn
  simp only [bareP]
  by_cases e1 : op = 1
  · subst e1
    exact (bare_lit S B b rows fg fo nu s pw nw cw w h hl c0 c3 c4 hi hZ).mono (fun e w' h => of_pc h (hbs _) hF)
  rw [if_neg e1]
  by_cases e2 : op = 2
  · subst e2
    exact (bare_truth S B b rows fg fo ys w h hl c0 c5).mono (fun e w' h => of_pc h (hbs _) hF)
  rw [if_neg e2]
  by_cases e3 : op = 3
  · subst e3
    exact (bare_word S B b rows fg fo nm 3 (.inl rfl) w h hl c0 c1).mono (fun e w' h => of_pc h (hbs _) hF)
  rw [if_neg e3]
  by_cases e4 : op = 4
  · subst e4
    exact (bare_word S B b rows fg fo nm 4 (.inr rfl) w h hl c0 c1).mono (fun e w' h => of_pc h (hbs _) hF)
  rw [if_neg e4]
  rw [if_neg (by omega)] at hn
  by_cases e5 : op = 5 ∨ op = 6
  · rw [if_pos (by omega)] at hn
    have hn := of_decide_eq_true hn
    rw [hn, hpk (by omega)] at c6
    have h9 := bare_one S B b rows fg fo gk ok ck op e5 w h hl hSf c0 c6
    refine h9.mono (fun e w' h => ?_)
    rcases e5 with rfl | rfl
    · exact of_pc h (PcsAt.app (hbs _) (hone (hK 0 9 (by omega)))) hF
    · exact of_pc h (PcsAt.app (hbs _) (hone (hK 0 4 (by omega)))) hF
  rw [if_neg (by omega), if_neg (by omega)]
  rw [if_neg (by omega)] at hn
  by_cases e21 : op = 21
  · subst e21
    rw [if_neg (by omega), if_pos rfl] at hn
    have hn := of_decide_eq_true hn
    rw [hn, hpk (by omega)] at c6
    refine (bare_if S B b rows fg fo gk ok ck w h hl hSf c0 c6).mono (fun e w' h => of_pc h ?_ hF)
    exact ⟨_, _, rfl, rfl, _, _, rfl, hK 0 0 (by omega), _, _, rfl, rfl, _, _, rfl, hK 1 0 (by omega), _, _, rfl, rfl, _, _, rfl, hK 2 0 (by omega), rfl⟩
  rw [if_neg e21]
  by_cases e22 : op = 22
  · subst e22
    rw [if_pos (by omega)] at hn
    have hn := of_decide_eq_true hn
    rw [hn, hpk (by omega)] at c6
    refine (bare_let S B b rows fg fo gk ok ck nm w h hl hnl hSf c0 c1 c6).mono (fun e w' h => of_pc h ?_ hF)
    exact ⟨_, _, rfl, rfl, _, _, rfl, hK 0 0 (by omega), _, _, rfl, rfl, _, _, rfl, hK 1 0 (by omega), rfl⟩
  rw [if_neg e22]
  by_cases e23 : op = 23
  · subst e23
    rw [if_pos (by omega)] at hn
    have hn := of_decide_eq_true hn
    rw [hn, hpk (by omega)] at c6
    refine (bare_assert S B b rows fg fo gk ok ck w h hl hSf c0 c6).mono (fun e w' h => of_pc h ?_ hF)
    exact ⟨_, _, rfl, rfl, _, _, rfl, hK 0 0 (by omega), _, _, rfl, rfl, _, _, rfl, hK 1 0 (by omega), rfl⟩
  rw [if_neg e23]
  by_cases e24 : op = 24
  · subst e24
    rw [if_neg (by omega), if_neg (by omega)] at hn
    have hn := of_decide_eq_true hn
    refine (bare_call S B b rows fg fo gk ok ks.length ck pk nm md w h hl hn hnl hml hSf hpk c0 c1 c2 c6).mono (fun e w' h => of_pc h ?_ hF)
    have ha := args_pc (F := F) (w := w) (gk := gk) (ok := ok) (ks := ks) (fun j x hx => hkp j x 0 hx) ks.length (Nat.le_refl _)
    rw [List.take_length] at ha
    refine PcsAt.app (PcsAt.app (PcsAt.app ?_ (hbs _)) ha) (hbs _)
    by_cases hm : md = []
    · rw [if_pos hm, if_pos hm]; rfl
    · rw [if_neg hm, if_neg hm]; exact hbs _
  rw [if_neg e24]
  rw [if_pos (by omega)] at hn
  have hn := of_decide_eq_true hn
  rw [hn, hpk (by omega)] at c6
  obtain ⟨j, rfl⟩ : ∃ j : Nat, op = ((7 + j : Nat) : Int) := ⟨(op - 7).toNat, by omega⟩
  have hj : j < signs9.length := by show j < 14; omega
  have hsg := List.getElem?_eq_getElem hj
  refine (bare_signed S B b rows fg fo gk ok ck j _ w h hl hsg hSf hSg hla c0 c6).mono (fun e w' h => of_pc h ?_ hF)
  rw [signT_get hsg]
  exact ⟨_, _, rfl, hK 0 _ (by omega), _, _, rfl, rfl, _, _, rfl, by have := hK 1 (sideB (levS ((7 + j : Nat) : Int))) (by omega); rwa [Nat.one_mul] at this, rfl⟩

def prow (p : Pq) : List Value := [.pointer (some p.1), .int .i64 (p.2.2 : Int)]
theorem infoPl : (Tryz.prog.info? 99).map (fun i => (i.zero, i.size, i.bytes)) = some (some (.agg #[.pointer none, .int .i64 0]), 2, 16) := by kernel_rfl
theorem infoExS : (Tryz.prog.info? 30).map (fun i => (i.zero, i.size, i.bytes)) = some (some (.agg #[.int .i64 0, .string ⟨#[]⟩, .string ⟨#[]⟩, .bool false, .slice none 0 0, .bool false, .slice none 0 0, .int .i64 0]), 8, 112) := by kernel_rfl
/-- Pointers to expressions at unlike places are unlike. -/
theorem ptr_ne {w : World} {a b : Addr} (hne : a ≠ b) (ha : Flat w a.block) (hb : Flat w b.block) : (binOp .eql 51 (.pointer (some a)) (.pointer (some b))).run Tryz.prog w = .ok (.bool false) w := by
  obtain ⟨ca, ta, ha⟩ := ha
  obtain ⟨cb, tb, hb⟩ := hb
  obtain ⟨j, hj, hjs⟩ := Option.map_eq_some_iff.1 infoExS
  simp only [Prod.mk.injEq] at hjs
  exact run_eql_ptr_other w Tryz.underlying51 hj (by rw [hjs.2.1]; decide) hne ha hb
mutual
/-- Are an expression's names and numbers small enough to be looked at? -/
def okS : Sx → Prop
  | .mk _ nm md nu _ ks _ => (nm.length ≤ 60000 ∧ md.length ≤ 60000 ∧ nu.natAbs < Zd.Lim) ∧ okSs ks
def okSs : List Sx → Prop
  | [] => True
  | x :: l => okS x ∧ okSs l
end
theorem okSs_get : ∀ {l : List Sx} {j : Nat} {x : Sx}, okSs l → l[j]? = some x → okS x
  | [], j, x, _, h => by simp at h
  | y :: l, 0, x, hr, h => by simp at h; subst h; simp only [okSs] at hr; exact hr.1
  | y :: l, j + 1, x, hr, h => by simp only [okSs] at hr; exact okSs_get hr.2 (by simpa using h)
theorem len_sizSs : ∀ l : List Sx, l.length ≤ sizSs l
  | [] => Nat.le_refl _
  | x :: l => by have := len_sizSs l; have := sizS_pos x; simp only [List.length_cons, sizSs]; omega
theorem cstP_len : ∀ P : List Pq, P.length ≤ cstP P
  | [] => Nat.le_refl _
  | p :: P => by
    have := cstP_len P
    simp only [List.length_cons, cstP, List.map_cons, List.sum_cons, cst1] at *
    omega
theorem mayF_c (op : Int) (w : World) : Calls Tryz.prog 30 #[.int .i64 op] w (fun e w' => e = .returned (.bool (mayB true op)) ∧ w' = w) := by
  go_enter Tryz.func30, Tryz.ntmps30
  go_wp2
  go_ret
  exact ⟨rfl, rfl⟩
theorem mayG_c (op : Int) (w : World) : Calls Tryz.prog 33 #[.int .i64 op] w (fun e w' => e = .returned (.bool (mayB false op)) ∧ w' = w) := by
  have h : mayB false op = (op != 4) := by
    unfold mayB
    rw [if_neg (by simp)]
    by_cases h : op = 4
    · subst h; rfl
    · rw [decide_eq_true h]; simp [bne, h]
  rw [h]
  go_enter Tryz.func33, Tryz.ntmps33
  go_wp2
  go_ret
  exact ⟨rfl, rfl⟩

set_option maxRecDepth 100000 in
set_option maxHeartbeats 8000000 in
theorem rplain_c (s : ByteArray) (w : World) (hs : s.size ≤ 60000) : Calls Tryz.prog 34 #[.string s] w (TruePost (plainB s.data.toList) w) := by
  have hN := plain_all s.data.toList
  have HL := Lib.hid (RLex_c s w (by omega))
  have hlen : s.data.toList.length ≤ 65536 := by rw [list_len]; omega
  obtain ⟨b, hb⟩ : ∃ b, plainB s.data.toList = b := ⟨_, rfl⟩
  rw [hb] at hN ⊢
  by_cases hf : (allE s.data.toList).2.1 = 0
  · have HP : Hid (∀ w1 e, RLexPost s.data.toList w e w1 → w.grownBy w1 none ∧ ∃ q c, e = .returned (.tuple #[.slice q (allE s.data.toList).1.length c, .int .i64 0, .int .i64 0]) ∧ TAt w1 q (allE s.data.toList).1) := Lib.hid (fun w1 e h => by
      unfold RLexPost at h
      obtain ⟨hg, h⟩ := h
      rw [if_neg (by omega), if_neg (by simp [hf])] at h
      obtain ⟨q, c, he, ht, -⟩ := h
      exact ⟨hg, q, c, he, ht⟩)
    by_cases h2 : (allE s.data.toList).1.length = 2
    · obtain ⟨x, y, hxy⟩ : ∃ x y, (allE s.data.toList).1 = [x, y] := by
        match hA : (allE s.data.toList).1, h2 with
        | [x, y], _ => exact ⟨x, y, rfl⟩
      have hbb : b = (decide (x.kind = 1) && decide (x.text = s.data.toList)) := by
        cases b with
        | false =>
          have h3 := mt hN.1 (by simp)
          cases hd : (decide (x.kind = 1) && decide (x.text = s.data.toList)) with
          | false => rfl
          | true =>
            simp only [Bool.and_eq_true, decide_eq_true_eq] at hd
            exact absurd ⟨hf, x, y, hxy, hd.1, hd.2⟩ h3
        | true =>
          obtain ⟨-, x', y', e, h4, h5⟩ := hN.2 rfl
          rw [hxy] at e
          simp only [List.cons.injEq, and_true] at e
          obtain ⟨rfl, rfl⟩ := e
          simp [h4, h5]
      rw [hxy] at HP
      have HB := Lib.hid hbb
      have HK : Hid (((x.kind : Int) == 1) = decide (x.kind = 1)) := Lib.hid (nat_beq x.kind 1)
      have HTX : Hid (strV x.text = .string ⟨x.text.toArray⟩) := Lib.hid rfl
      have HQ : Hid ((x.text == s.toList) = decide (x.text = s.data.toList)) := Lib.hid (by
        rw [toList_data]
        by_cases h : x.text = s.data.toList
        · rw [decide_eq_true h]; exact beq_iff_eq.2 h
        · rw [decide_eq_false h]; exact beq_eq_false_iff_ne.2 h)
      clear hN hf h2 hxy hb hbb hlen
      obtain ⟨k1, hk1⟩ : ∃ k, decide (x.kind = 1) = k := ⟨_, rfl⟩
      rw [hk1] at HK HB
      have HKK := HK.out
      clear hk1
      go_enter Tryz.func34, Tryz.ntmps34
      go_wp2_with fail
      refine HL.out.mono ?_
      intro e w1 hp
      obtain ⟨hg, q, c, rfl, ht⟩ := HP.out w1 e hp
      have HG := Lib.hid hg
      obtain ⟨g, off, rfl, hgl, hc⟩ := ht.resolve_left (by simp)
      obtain ⟨c0, c1, c2, c3⟩ := hc 0 x rfl
      rw [HTX.out] at c2
      simp only [Nat.zero_mul, Nat.add_zero] at c0 c1 c2 c3
      clear hg hp hc ht
      cases k1
      · go_wp2_with fail
        go_ret
        exact ⟨by rw [HB.out]; rfl, HG.out⟩
      · go_wp2_with fail
        go_ret
        exact ⟨by rw [HB.out, Bool.true_and, ← HQ.out]; rfl, HG.out⟩
    · have hbb : b = false := by
        cases b with
        | false => rfl
        | true =>
          obtain ⟨-, x', y', e, -⟩ := hN.2 rfl
          rw [e] at h2; exact absurd rfl h2
      obtain ⟨L, hL⟩ : ∃ L, (allE s.data.toList).1.length = L := ⟨_, rfl⟩
      rw [hL] at HP h2
      have e2 : ((L : Int) == 2) = false := beq_eq_false_iff_ne.2 (by omega)
      subst hbb
      clear hN hf hb hlen hL h2
      go_enter Tryz.func34, Tryz.ntmps34
      go_wp2_with fail
      refine HL.out.mono ?_
      intro e w1 hp
      obtain ⟨hg, q, c, rfl, -⟩ := HP.out w1 e hp
      have HG := Lib.hid hg
      clear hg hp
      go_wp2_with fail
      go_ret
      exact ⟨rfl, HG.out⟩
  · have hbb : b = false := by
      cases b with
      | false => rfl
      | true => exact absurd (hN.2 rfl).1 hf
    have HP : Hid (∀ w1 e, RLexPost s.data.toList w e w1 → w.grownBy w1 none ∧ e = .returned (.tuple #[.slice none 0 0, .int .i64 ((allE s.data.toList).2.1 : Nat), .int .i64 ((allE s.data.toList).2.2 : Nat)])) := Lib.hid (fun w1 e h => by
      unfold RLexPost at h
      obtain ⟨hg, h⟩ := h
      rw [if_neg (by omega), if_pos hf] at h
      exact ⟨hg, h⟩)
    obtain ⟨n, hn⟩ : ∃ n, (allE s.data.toList).2.1 = n := ⟨_, rfl⟩
    obtain ⟨m, hm⟩ : ∃ n, (allE s.data.toList).2.2 = n := ⟨_, rfl⟩
    rw [hn, hm] at HP
    rw [hn] at hf
    have e1 : ((n : Int) == 0) = false := beq_eq_false_iff_ne.2 (by omega)
    subst hbb
    clear hN hf hb hlen hn hm
    go_enter Tryz.func34, Tryz.ntmps34
    go_wp2_with fail
    refine HL.out.mono ?_
    intro e w1 hp
    obtain ⟨hg, rfl⟩ := HP.out w1 e hp
    have HG := Lib.hid hg
    clear hg hp
    go_wp2_with fail
    go_ret
    exact ⟨rfl, HG.out⟩
end Go.Proofs.YtccokidhngdjnaaGreatDoor
