/- Lemmas. -/
import Derived.Test.YtijpelkjeejjfaaGreatDoorP15
import Derived.Test.YtijpelkjeejjfaaGreatDoorP20
set_option linter.unusedVariables false
set_option linter.unusedSimpArgs false
namespace Go.Proofs.YtijpelkjeejjfaaGreatDoor

structure St where
  i : Nat
  inn : Bool
  e : Nat
  pos : Nat
abbrev RQ := List UInt8 × St

def tokQ (T : List Tok) (s : St) : Tok := T[s.i]?.getD ⟨5, [], [], 0⟩
def failQ (T : List Tok) (n : Nat) (s : St) : St := if s.e = 0 then { s with e := n, pos := (tokQ T s).pos } else s
def isQ (T : List Tok) (w : List UInt8) (s : St) : Bool := decide (s.e = 0 ∧ ((tokQ T s).kind = 2 ∨ (tokQ T s).kind = 4) ∧ (tokQ T s).text = w)
def leafQ (T : List Tok) (s : St) : RQ := if (tokQ T s).kind = 5 then ([32, 36], s) else (32 :: (tokQ T s).text, { s with i := s.i + 1 })
def mustQ (T : List Tok) (w : List UInt8) (s : St) : RQ := if isQ T w s = true then leafQ T s else ([], failQ T 22 s)
def kindQ (T : List Tok) (k : Nat) (s : St) : RQ := if s.e = 0 ∧ (tokQ T s).kind = k then leafQ T s else ([], failQ T 22 s)
def nestQ (T : List Tok) (D n : Nat) (s : St) : St := if D < n then failQ T 23 s else s

/-- A row: what stands ahead, then each sign and what is behind it. -/
def rowQ (T : List Tok) (c : St → Bool) (sub : St → RQ) : Nat → RQ → RQ
  | 0, r => r
  | f + 1, r => if c r.2 = true then
      rowQ T c sub f ([32, 40, 49, 48] ++ r.1 ++ (leafQ T r.2).1 ++ (sub (leafQ T r.2).2).1 ++ [41], (sub (leafQ T r.2).2).2)
    else r
/-- Parts with commas between them: k have come. -/
def partsQ (T : List Tok) (sub : St → RQ) : Nat → Nat → RQ → RQ
  | 0, _, r => r
  | f + 1, k, r => if isQ T [44] r.2 = true then
      let l := leafQ T r.2
      let s := if k = 8 then failQ T 15 l.2 else l.2
      partsQ T sub f (k + 1) (r.1 ++ l.1 ++ (sub s).1, (sub s).2)
    else r

/-- What is nested by one more. -/
structure Nx where
  expr : St → RQ
  formula : St → RQ
  nots : St → RQ
  factor : St → RQ

section
variable (T : List Tok) (D n : Nat) (nx : Nx)
def fuelQ (s : St) : Nat := T.length - s.i + 1
def argsQ (s : St) : RQ := partsQ T nx.expr (fuelQ T (nx.expr s).2) 1 (nx.expr s)
def nameB (a : RQ) : RQ := if isQ T [46] a.2 = true then (a.1 ++ (leafQ T a.2).1 ++ (kindQ T 1 (leafQ T a.2).2).1, (kindQ T 1 (leafQ T a.2).2).2) else a
def nameC (b : RQ) : RQ := (b.1 ++ (mustQ T [40] b.2).1, (mustQ T [40] b.2).2)
def nameD (c : RQ) : RQ := if isQ T [41] c.2 = true then c else (c.1 ++ (argsQ T nx c.2).1, (argsQ T nx c.2).2)
def nameE (d : RQ) : RQ := ([32, 40, 49, 51] ++ d.1 ++ (mustQ T [41] d.2).1 ++ [41], (mustQ T [41] d.2).2)
def nameQ (s : St) : RQ :=
  if (leafQ T s).2.inn = true ∨ (isQ T [46] (leafQ T s).2 = false ∧ isQ T [40] (leafQ T s).2 = false) then ([32, 40, 49, 52] ++ (leafQ T s).1 ++ [41], (leafQ T s).2)
  else nameE T (nameD T nx (nameC T (nameB T (leafQ T s))))
def atomQ (s : St) : RQ :=
  if s.e ≠ 0 then ([], s)
  else if (tokQ T s).kind = 3 then ([32, 40, 49, 53] ++ (leafQ T s).1 ++ [41], (leafQ T s).2)
  else if isQ T [116, 114, 117, 101] s = true ∨ isQ T [102, 97, 108, 115, 101] s = true then ([32, 40, 49, 54] ++ (leafQ T s).1 ++ [41], (leafQ T s).2)
  else if s.inn = true ∧ isQ T [114, 101, 115] s = true then ([32, 40, 49, 55] ++ (leafQ T s).1 ++ [41], (leafQ T s).2)
  else if isQ T [40] s = true then
    let l := leafQ T s
    let b := nx.expr l.2
    let c := mustQ T [41] b.2
    ([32, 40, 49, 50] ++ l.1 ++ b.1 ++ c.1 ++ [41], c.2)
  else if (tokQ T s).kind = 1 then nameQ T nx s
  else ([], failQ T 22 s)
/-- A sign ahead of what is nested. -/
def signQ (sub : St → RQ) (s : St) : RQ :=
  let l := leafQ T s
  let t := nestQ T D (n + 1) l.2
  if t.e ≠ 0 then ([], t) else ([32, 40, 49, 49] ++ l.1 ++ (sub t).1 ++ [41], (sub t).2)
def factorQ (s : St) : RQ := if isQ T [45] s = true then signQ T D n nx.factor s else atomQ T nx s
def isMul (s : St) : Bool := isQ T [42] s || isQ T [47] s || isQ T [37] s
def isAdd (s : St) : Bool := isQ T [43] s || isQ T [45] s
def isCmp (s : St) : Bool := isQ T [61] s || isQ T [60, 62] s || isQ T [60] s || isQ T [60, 61] s || isQ T [62] s || isQ T [62, 61] s
def productQ (s : St) : RQ := rowQ T (isMul T) (factorQ T D n nx) (fuelQ T (factorQ T D n nx s).2) (factorQ T D n nx s)
def sumQ (s : St) : RQ := rowQ T (isAdd T) (productQ T D n nx) (fuelQ T (productQ T D n nx s).2) (productQ T D n nx s)
def notQ (s : St) : RQ :=
  if isQ T [110, 111, 116] s = true then signQ T D n nx.nots s
  else
    let a := sumQ T D n nx s
    if isCmp T a.2 = true then
      let l := leafQ T a.2
      let b := sumQ T D n nx l.2
      ([32, 40, 49, 48] ++ a.1 ++ l.1 ++ b.1 ++ [41], b.2)
    else a
def andQ (s : St) : RQ := rowQ T (isQ T [38, 38]) (notQ T D n nx) (fuelQ T (notQ T D n nx s).2) (notQ T D n nx s)
def orQ (s : St) : RQ := rowQ T (isQ T [124, 124]) (andQ T D n nx) (fuelQ T (andQ T D n nx s).2) (andQ T D n nx s)
def formulaQ (s : St) : RQ :=
  let a := orQ T D n nx s
  if isQ T [61, 62] a.2 = true then
    let l := leafQ T a.2
    let t := nestQ T D (n + 1) l.2
    if t.e ≠ 0 then ([], t) else ([32, 40, 49, 48] ++ a.1 ++ l.1 ++ (nx.formula t).1 ++ [41], (nx.formula t).2)
  else a
def letQ (s : St) : RQ :=
  let l := leafQ T s
  let k := kindQ T 1 l.2
  let q := mustQ T [61] k.2
  let a := nx.expr q.2
  let i := mustQ T [105, 110] a.2
  let b := nx.expr i.2
  ([32, 40, 55] ++ l.1 ++ k.1 ++ q.1 ++ a.1 ++ i.1 ++ b.1 ++ [41], b.2)
def ifQ (s : St) : RQ :=
  let l := leafQ T s
  let a := nx.expr l.2
  let t := mustQ T [116, 104, 101, 110] a.2
  let b := nx.expr t.2
  let e := mustQ T [101, 108, 115, 101] b.2
  let c := nx.expr e.2
  ([32, 40, 56] ++ l.1 ++ a.1 ++ t.1 ++ b.1 ++ e.1 ++ c.1 ++ [41], c.2)
def assertQ (s : St) : RQ :=
  let l := leafQ T s
  let a := nx.expr l.2
  let i := mustQ T [105, 110] a.2
  let b := nx.expr i.2
  ([32, 40, 57] ++ l.1 ++ a.1 ++ i.1 ++ b.1 ++ [41], b.2)
def exprQ (s : St) : RQ :=
  let t := nestQ T D n s
  if t.e ≠ 0 then ([], t)
  else if t.inn = false ∧ isQ T [108, 101, 116] t = true then letQ T nx t
  else if t.inn = false ∧ isQ T [105, 102] t = true then ifQ T nx t
  else if t.inn = false ∧ isQ T [97, 115, 115, 101, 114, 116] t = true then assertQ T nx t
  else formulaQ T D n nx t
end

/-- All that is nested by n or more, where d = D + 1 - n. -/
def nxQ (T : List Tok) (D : Nat) : Nat → Nx
  | 0 => { expr := fun s => ([], nestQ T D (D + 1) s), formula := fun s => ([], s), nots := fun s => ([], s), factor := fun s => ([], s) }
  | d + 1 => { expr := exprQ T D (D - d) (nxQ T D d), formula := formulaQ T D (D - d) (nxQ T D d), nots := notQ T D (D - d) (nxQ T D d), factor := factorQ T D (D - d) (nxQ T D d) }

/-! ### How long answers are -/

/-- Each token that is used has room for what is written of it and for what is written about it. -/
def roomQ (T : List Tok) (i : Nat) : Nat := ((T.take i).map fun t => t.text.length + 8).sum
theorem room_next (T : List Tok) {i : Nat} {t : Tok} (h : T[i]? = some t) : roomQ T (i + 1) = roomQ T i + (t.text.length + 8) := by
  unfold roomQ; rw [List.take_add_one, h, List.map_append, List.sum_append]; simp
theorem fail_i (T : List Tok) (n : Nat) (s : St) : (failQ T n s).i = s.i := by unfold failQ; split <;> rfl
theorem nest_i (T : List Tok) (D n : Nat) (s : St) : (nestQ T D n s).i = s.i := by unfold nestQ; split; exact fail_i T 23 s; rfl
theorem leaf_fits {T : List Tok} {s : St} (h : (tokQ T s).kind ≠ 5) : (leafQ T s).1.length + 7 + roomQ T s.i ≤ roomQ T (leafQ T s).2.i ∧ (leafQ T s).2.i = s.i + 1 := by
  unfold leafQ
  rw [if_neg h]
  cases ht : T[s.i]? with
  | none => exact absurd (by unfold tokQ; rw [ht]; rfl) h
  | some t =>
    have h1 : tokQ T s = t := by unfold tokQ; rw [ht]; rfl
    rw [h1, room_next T ht]
    refine ⟨?_, rfl⟩
    simp only [List.length_cons]; omega
theorem is_kind {T : List Tok} {w : List UInt8} {s : St} (h : isQ T w s = true) : (tokQ T s).kind ≠ 5 ∧ s.e = 0 := by
  unfold isQ at h
  have := of_decide_eq_true h
  omega
end Go.Proofs.YtijpelkjeejjfaaGreatDoor
namespace Go.Proofs.YtijpelkjeejjfaaGreatDoor.Zd
open Go.RowKit Mx

/-- Plain digits: one at least, no nought ahead of others. -/
def plain (l : List UInt8) : Bool := (l.all fun b => decide (48 ≤ b.toNat ∧ b.toNat ≤ 57)) && (decide (l = [48]) || (decide (l ≠ []) && decide (l.head? ≠ some 48)))

theorem idx_run (s : ByteArray) (k b : Nat) (h : k < s.data.toList.length) (hb : (s.data.toList[k]).toNat = b) : ∀ w : World, (Instr.index 9 (.string s) (.int .i64 (k : Int))).run Tryz.prog w = .ok (.int .u8 (b : Int)) w := by
  intro w
  have hs : s.data.toList.length = s.size := Array.length_toList
  rw [run_index_string w 9 s .i64 k Tryz.underlying9, dif_pos ⟨by omega, by omega⟩]
  have e : (s[((k : Int)).toNat]'(by omega)).toNat = b := by
    rw [← hb]; simp [ByteArray.getElem_eq_getElem_data]
  rw [e]

theorem toList_data (s : ByteArray) : s.toList = s.data.toList := ByteArray.toList_eq s

theorem byte_lt (x : UInt8) : x.toNat < 256 := x.toNat_lt

set_option maxHeartbeats 2000000 in
theorem plain_c (s : ByteArray) (w : World) (hs : s.data.toList.length ≤ 1000) : Calls Tryz.prog 29 #[.string s] w (fun e w' => e = .returned (.bool (plain s.data.toList)) ∧ w' = w) := by
  obtain ⟨n, hn⟩ : ∃ n, s.data.toList.length = n := ⟨_, rfl⟩
  have hsz : s.size = n := by rw [← hn]; exact (Array.length_toList).symm
  rw [hn] at hs
  have HN := Lib.hid hn
  clear hn
  go_enter Tryz.func29, Tryz.ntmps29
  go_wp2
  go_loopw [6] (fun i wr => ∃ k : Nat, k ≤ n ∧ i = .int .i64 k ∧ Hid (∀ j (hj : j < s.data.toList.length), j < k → 48 ≤ (s.data.toList[j]).toNat ∧ (s.data.toList[j]).toNat ≤ 57) ∧ wr = w) (fun i _ => n - (intOf i).toNat)
  case atStart => exact ⟨0, by omega, rfl, fun j _ h => by omega, rfl⟩
  case round =>
    obtain ⟨k, hk, rfl, HD, rfl⟩ := hrel
    by_cases hlt : k < n
    · obtain ⟨b, hb⟩ : ∃ b : Nat, (s.data.toList[k]'(by rw [HN.out]; exact hlt)).toNat = b := ⟨_, rfl⟩
      have hb2 : b < 256 := by rw [← hb]; exact byte_lt _
      have hix := idx_run s k b (by rw [HN.out]; exact hlt) hb
      have HB := Lib.hid hb
      clear hb
      have hbad : (b < 48 ∨ 57 < b) → plain s.data.toList = false := by
        intro h
        unfold plain
        have : (s.data.toList.all fun b => decide (48 ≤ b.toNat ∧ b.toNat ≤ 57)) = false := by
          rw [List.all_eq_false]
          exact ⟨_, List.getElem_mem (by rw [HN.out]; exact hlt), by rw [HB.out]; simp; omega⟩
        rw [this]; rfl
      have HBAD := Lib.hid hbad
      clear hbad
      by_cases h1 : b < 48
      · have d1 : decide ((b : Int) < 48) = true := decide_eq_true (by omega)
        go_wp2
        go_ret
        exact ⟨congrArg (fun b => Ending.returned (.bool b)) (HBAD.out (.inl h1)).symm, rfl⟩
      · have d1 : decide ((b : Int) < 48) = false := decide_eq_false (by omega)
        by_cases h2 : 57 < b
        · have d2 : decide ((57 : Int) < b) = true := decide_eq_true (by omega)
          go_wp2
          go_ret
          exact ⟨congrArg (fun b => Ending.returned (.bool b)) (HBAD.out (.inr h2)).symm, rfl⟩
        · have d2 : decide ((57 : Int) < b) = false := decide_eq_false (by omega)
          go_wp2
          go_roundw
          case rel =>
            refine ⟨k + 1, by omega, by go_num, fun j hj h => ?_, by first | rfl | trivial⟩
            rcases Nat.lt_or_ge j k with h | h
            · exact HD.out j hj h
            · obtain rfl : j = k := by omega
              rw [HB.out]; omega
          case measure => simp [intOf]; omega
    · obtain rfl : k = n := by omega
      have hall : (s.data.toList.all fun b => decide (48 ≤ b.toNat ∧ b.toNat ≤ 57)) = true := by
        rw [List.all_eq_true]
        intro x hx
        obtain ⟨j, hj, rfl⟩ := List.getElem_of_mem hx
        exact decide_eq_true (HD.out j hj (by rw [← HN.out]; exact hj))
      have hp : plain s.data.toList = (decide (s.data.toList = [48]) || (decide (s.data.toList ≠ []) && decide (s.data.toList.head? ≠ some 48))) := by
        unfold plain; rw [hall]; rfl
      have HP := Lib.hid hp
      clear hall hp
      by_cases hz : s.data.toList = [48]
      · have c1 : (s.toList == [48]) = true := by rw [toList_data, hz]; rfl
        have HZ := Lib.hid hz
        clear hz
        go_wp2
        go_ret
        exact ⟨congrArg (fun b => Ending.returned (.bool b)) (show true = plain s.data.toList by rw [HP.out, HZ.out]; rfl), by first | rfl | trivial⟩
      · have c1 : (s.toList == [48]) = false := by rw [toList_data]; exact beq_eq_false_iff_ne.2 hz
        by_cases h0 : k = 0
        · subst h0
          have hnil : s.data.toList = [] := List.eq_nil_of_length_eq_zero HN.out
          have c2 : s.toList.isEmpty = true := by rw [toList_data, hnil]; rfl
          have HZ := Lib.hid hnil
          clear hz hnil
          go_wp2
          go_ret
          exact ⟨congrArg (fun b => Ending.returned (.bool b)) (show false = plain s.data.toList by rw [HP.out, HZ.out]; rfl), by first | rfl | trivial⟩
        · have h0' : 0 < s.data.toList.length := by rw [HN.out]; omega
          have hnil : s.data.toList ≠ [] := List.ne_nil_of_length_pos h0'
          have c2 : s.toList.isEmpty = false := by rw [toList_data]; simpa using hnil
          have hpl : ∀ h : 0 < s.size, ((((s[0]'h).toNat : Nat) : Int) != 48) = plain s.data.toList := by
            intro h
            have e : s[0]'h = s.data.toList[0]'h0' := by simp [ByteArray.getElem_eq_getElem_data]
            rw [e, HP.out, decide_eq_false hz, decide_eq_true hnil, Bool.false_or, Bool.true_and, List.head?_eq_getElem?, List.getElem?_eq_getElem h0']
            generalize s.data.toList[0] = x
            by_cases hx : x = 48
            · subst hx; decide
            · rw [decide_eq_true (by simpa using hx)]
              exact bne_iff_ne.2 (fun e => hx (UInt8.toNat_inj.1 (by have : x.toNat = 48 := by omega
                                                                     rw [this]; rfl)))
          have HPL := Lib.hid hpl
          clear hz hnil hpl
          go_wp2
          go_ret
          exact ⟨congrArg (fun b => Ending.returned (.bool b)) (HPL.out _), by first | rfl | trivial⟩
end Go.Proofs.YtijpelkjeejjfaaGreatDoor.Zd
namespace Go.Proofs.YtijpelkjeejjfaaGreatDoor
open Go.RowKit

def fbT (ys : Bool) : List UInt8 := if ys then [116, 114, 117, 101] else [102, 97, 108, 115, 101]
set_option maxRecDepth 100000 in
set_option maxHeartbeats 16000000 in
theorem bare_lit (S : Nat → Prop) (B b : Nat) (rows : List (List Value)) (fg fo : Nat) (nu : Int) (s : Bool) (pw : Option Addr) (nw cw : Nat) (w : World) (h : WrAt S B b w rows) (hl : rows.length ≤ 700000)
    (c0 : w.cell? ⟨fg, fo, none⟩ = some (.int .i64 1)) (c3 : w.cell? ⟨fg, fo + 3, none⟩ = some (.bool s)) (c4 : w.cell? ⟨fg, fo + 4, none⟩ = some (.slice pw nw cw)) (hi : Zd.IsInt w (.agg #[.bool s, .slice pw nw cw]) nu) (hZ : nu.natAbs < Zd.Lim) :
    Calls Tryz.prog 62 #[.pointer (some ⟨b, 0, none⟩), .pointer (some ⟨fg, fo, none⟩)] w (PcPost S B b (rows ++ [rowB (Zd.txtL nu)]) w) := by
  have HPUT := Lib.hid (fun rows s W h h2 => put_c9 S B b rows s W h h2)
  have HT := Lib.hid (Zd.String_c _ nu w hi hZ)
  have HW := Lib.hid h; have HL := Lib.hid hl
  have c4' : w.cell? ⟨fg, fo + 3 + 1, none⟩ = some (.slice pw nw cw) := c4
  obtain ⟨TX, hTX⟩ : ∃ z, Zd.txtL nu = z := ⟨_, rfl⟩
  have HV : Hid (Zd.txt nu = .string ⟨TX.toArray⟩) := Lib.hid (by unfold Zd.txt; rw [hTX])
  rw [hTX]
  clear h hl hi hZ hTX
  go_enter Tryz.func62, Tryz.ntmps62
  go_wp2_with fail
  refine HT.out.mono ?_
  rintro e w1 ⟨rfl, hg⟩
  rw [HV.out]
  have HG := Lib.hid hg
  clear hg
  go_wp2_with fail
  refine (HPUT.out _ _ w1 (HW.out.kept HG.out) (by have := HL.out; omega)).mono ?_
  rintro e w2 ⟨rfl, hw2, hf2⟩
  have HW2 := Lib.hid hw2; have HF2 := Lib.hid ((Fr2.none HG.out).trans hf2)
  clear hw2 hf2
  go_wp2_with fail
  go_end0
  exact ⟨rfl, HW2.out, HF2.out⟩
set_option maxRecDepth 100000 in
set_option maxHeartbeats 16000000 in
theorem bare_truth (S : Nat → Prop) (B b : Nat) (rows : List (List Value)) (fg fo : Nat) (ys : Bool) (w : World) (h : WrAt S B b w rows) (hl : rows.length ≤ 700000)
    (c0 : w.cell? ⟨fg, fo, none⟩ = some (.int .i64 2)) (c5 : w.cell? ⟨fg, fo + 5, none⟩ = some (.bool ys)) :
    Calls Tryz.prog 62 #[.pointer (some ⟨b, 0, none⟩), .pointer (some ⟨fg, fo, none⟩)] w (PcPost S B b (rows ++ [rowB (fbT ys)]) w) := by
  have HP := Lib.hid (put_c9 S B b rows ⟨(fbT ys).toArray⟩ w h (by omega))
  have HFB : Hid (Calls Tryz.prog 82 #[.bool ys] w fun e w' => e = .returned (.string ⟨(fbT ys).toArray⟩) ∧ w' = w) := Lib.hid (by
    have h := Tryz.strconv_FormatBool ys w
    have e : Lib.formatBool ys = fbT ys := by cases ys <;> rfl
    rw [e] at h; exact h)
  clear h hl
  go_enter Tryz.func62, Tryz.ntmps62
  go_wp2_with fail
  refine HFB.out.mono ?_
  rintro e w1 ⟨rfl, rfl⟩
  go_wp2_with fail
  refine HP.out.mono ?_
  rintro e w2 ⟨rfl, hw2, hf2⟩
  have HW2 := Lib.hid hw2; have HF2 := Lib.hid hf2
  clear hw2 hf2
  go_wp2_with fail
  go_end0
  exact ⟨rfl, HW2.out, HF2.out⟩
set_option maxRecDepth 100000 in
set_option maxHeartbeats 16000000 in
theorem bare_word (S : Nat → Prop) (B b : Nat) (rows : List (List Value)) (fg fo : Nat) (nm : List UInt8) (op : Int) (hop : op = 3 ∨ op = 4) (w : World) (h : WrAt S B b w rows) (hl : rows.length ≤ 700000)
    (c0 : w.cell? ⟨fg, fo, none⟩ = some (.int .i64 op)) (c1 : w.cell? ⟨fg, fo + 1, none⟩ = some (.string ⟨nm.toArray⟩)) :
    Calls Tryz.prog 62 #[.pointer (some ⟨b, 0, none⟩), .pointer (some ⟨fg, fo, none⟩)] w (PcPost S B b (rows ++ [rowB (if op = 3 then nm else [114, 101, 115])]) w) := by
  have HP := Lib.hid (fun s => put_c9 S B b rows s w h (by omega))
  clear h hl
  rcases hop with rfl | rfl
  all_goals
    go_enter Tryz.func62, Tryz.ntmps62
    go_wp2_with fail
    refine (HP.out _).mono ?_
    rintro e w2 ⟨rfl, hw2, hf2⟩
    have HW2 := Lib.hid hw2; have HF2 := Lib.hid hf2
    clear hw2 hf2
    go_wp2_with fail
    go_end0
    exact ⟨rfl, HW2.out, HF2.out⟩
set_option maxRecDepth 100000 in
set_option maxHeartbeats 16000000 in
theorem bare_one (S : Nat → Prop) (B b : Nat) (rows : List (List Value)) (fg fo gk ok ck : Nat) (op : Int) (hop : op = 5 ∨ op = 6) (w : World) (h : WrAt S B b w rows) (hl : rows.length ≤ 700000) (hSf : S fg)
    (c0 : w.cell? ⟨fg, fo, none⟩ = some (.int .i64 op)) (c6 : w.cell? ⟨fg, fo + 6, none⟩ = some (.slice (some ⟨gk, ok, none⟩) 1 ck)) :
    Calls Tryz.prog 62 #[.pointer (some ⟨b, 0, none⟩), .pointer (some ⟨fg, fo, none⟩)] w (PcPost S B b (rows ++ [rowB (if op = 5 then [45] else [110, 111, 116, 32]), rowX gk ok (if op = 5 then 9 else 4)]) w) := by
  have HP := Lib.hid (fun s => put_c9 S B b rows s w h (by omega))
  have HEXP := Lib.hid (fun rows a (l : Int) W h h2 => expr_c9 S B b rows a l W h h2)
  have hfgw : fg < w.heap.size := by obtain ⟨v, -, -, -, -, -, -, hh⟩ := h; exact hh _ hSf
  have HKP : Hid (∀ W', Fr2 (fun k => ¬ S k) w W' → W'.cell? ⟨fg, fo + 6, none⟩ = some (.slice (some ⟨gk, ok, none⟩) 1 ck) ∧ fg < W'.heap.size) := Lib.hid (fun W' hf =>
    ⟨by rw [World.cell?_of_block (w := w) (hf.block fg hfgw (fun e => e hSf))]; exact c6, Nat.lt_of_lt_of_le hfgw hf.size⟩)
  have HL := Lib.hid hl
  clear h hl hSf
  rcases hop with rfl | rfl
  all_goals
    go_enter Tryz.func62, Tryz.ntmps62
    go_wp2_with fail
    refine (HP.out _).mono ?_
    rintro e w2 ⟨rfl, hw2, hf2⟩
    have HW2 := Lib.hid hw2; have HF2 := Lib.hid hf2
    obtain ⟨c6, hfw⟩ := HKP.out _ HF2.out
    clear hw2 hf2
    go_wp2_with fail
    refine (HEXP.out _ _ _ w2 HW2.out (by have h := HL.out; simp only [List.length_append, List.length_cons, List.length_nil]; omega)).mono ?_
    rintro e w3 ⟨rfl, hw3, hf3⟩
    simp only [List.append_assoc, List.cons_append, List.nil_append] at hw3
    have HW3 := Lib.hid hw3; have HF3 := Lib.hid (HF2.out.trans hf3)
    clear hw3 hf3
    go_wp2_with fail
    go_end0
    exact ⟨rfl, HW3.out, HF3.out⟩

set_option maxRecDepth 100000 in
set_option maxHeartbeats 16000000 in
theorem bare_call (S : Nat → Prop) (B b : Nat) (rows : List (List Value)) (fg fo gk ok n ck : Nat) (pk : Option Addr) (nm md : List UInt8) (w : World) (h : WrAt S B b w rows) (hl : rows.length ≤ 700000) (hn : n ≤ 8) (hnl : nm.length ≤ 60000) (hml : md.length ≤ 60000) (hSf : S fg) (hpk : 0 < n → pk = some ⟨gk, ok, none⟩)
    (c0 : w.cell? ⟨fg, fo, none⟩ = some (.int .i64 24)) (c1 : w.cell? ⟨fg, fo + 1, none⟩ = some (.string ⟨nm.toArray⟩)) (c2 : w.cell? ⟨fg, fo + 2, none⟩ = some (.string ⟨md.toArray⟩)) (c6 : w.cell? ⟨fg, fo + 6, none⟩ = some (.slice pk n ck)) :
    Calls Tryz.prog 62 #[.pointer (some ⟨b, 0, none⟩), .pointer (some ⟨fg, fo, none⟩)] w (PcPost S B b (rows ++ callR nm md gk ok n) w) := by
  have HC := Lib.hid (call_c9 S B b rows fg fo gk ok n ck pk nm md w h (by omega) hn hnl hml hSf hpk c1 c2 c6)
  clear h hl hn hnl hml hSf hpk c1 c2 c6
  go_enter Tryz.func62, Tryz.ntmps62
  go_wp2_with fail
  refine HC.out.mono ?_
  rintro e w2 ⟨rfl, hw2, hf2⟩
  have HW2 := Lib.hid hw2; have HF2 := Lib.hid hf2
  clear hw2 hf2
  go_wp2_with fail
  go_end0
  exact ⟨rfl, HW2.out, HF2.out⟩
set_option maxRecDepth 100000 in
set_option maxHeartbeats 16000000 in
theorem bare_signed (S : Nat → Prop) (B b : Nat) (rows : List (List Value)) (fg fo gk ok ck j : Nat) (sg : List UInt8) (w : World) (h : WrAt S B b w rows) (hl : rows.length ≤ 700000) (hj : signs9[j]? = some sg) (hSf : S fg) (hSg : S 0) (hla : LaidW w)
    (c0 : w.cell? ⟨fg, fo, none⟩ = some (.int .i64 ((7 + j : Nat) : Int))) (c6 : w.cell? ⟨fg, fo + 6, none⟩ = some (.slice (some ⟨gk, ok, none⟩) 2 ck)) :
    Calls Tryz.prog 62 #[.pointer (some ⟨b, 0, none⟩), .pointer (some ⟨fg, fo, none⟩)] w (PcPost S B b (rows ++ [rowX gk ok (sideA (levS ((7 + j : Nat) : Int)) : Nat), rowB ([32] ++ sg ++ [32]), rowX gk (ok + 8) (sideB (levS ((7 + j : Nat) : Int)) : Nat)]) w) := by
  have hj14 : j < 14 := (List.getElem?_eq_some_iff.1 hj).1
  have HC := Lib.hid (signed_c9 S B b rows fg fo gk ok ck j sg w h (by omega) hj hSf hSg hla c0 c6)
  obtain ⟨op, hop⟩ : ∃ op : Int, ((7 + j : Nat) : Int) = op := ⟨_, rfl⟩
  rw [hop] at c0 HC ⊢
  have e1 : (op == 1) = false := beq_eq_false_iff_ne.2 (by omega)
  have e2 : (op == 2) = false := beq_eq_false_iff_ne.2 (by omega)
  have e3 : (op == 3) = false := beq_eq_false_iff_ne.2 (by omega)
  have e4 : (op == 4) = false := beq_eq_false_iff_ne.2 (by omega)
  have e5 : (op == 5) = false := beq_eq_false_iff_ne.2 (by omega)
  have e6 : (op == 6) = false := beq_eq_false_iff_ne.2 (by omega)
  have e7 : (op == 21) = false := beq_eq_false_iff_ne.2 (by omega)
  have e8 : (op == 22) = false := beq_eq_false_iff_ne.2 (by omega)
  have e9 : (op == 23) = false := beq_eq_false_iff_ne.2 (by omega)
  have e10 : (op == 24) = false := beq_eq_false_iff_ne.2 (by omega)
  clear h hl hj hSf hSg hla c6 hj14 hop
  go_enter Tryz.func62, Tryz.ntmps62
  go_wp2_with fail
  refine HC.out.mono ?_
  rintro e w2 ⟨rfl, hw2, hf2⟩
  have HW2 := Lib.hid hw2; have HF2 := Lib.hid hf2
  clear hw2 hf2
  go_wp2_with fail
  go_end0
  exact ⟨rfl, HW2.out, HF2.out⟩

/-- Parts whose row of pieces ahead is laid anew. -/
theorem parts_new (S : Nat → Prop) (B b : Nat) (rows : List (List Value)) (fg fo gk ok kn ck m cs : Nat) (A : List (List UInt8)) (vs : Array Value) (w : World) (h : WrAt S B b w rows) (hl : rows.length ≤ 700000) (hA : A.length = m) (hm : m ≤ kn) (hk : kn ≤ 1000000) (hm9 : m ≤ 9) (hvs : vs = (A.map strV).toArray)
    (c6 : w.cell? ⟨fg, fo + 6, none⟩ = some (.slice (some ⟨gk, ok, none⟩) kn ck)) (hSf : S fg) :
    Calls Tryz.prog 83 #[.pointer (some ⟨b, 0, none⟩), .pointer (some ⟨fg, fo, none⟩), .slice (some ⟨w.heap.size, 0, none⟩) m cs] (w.alloc (.cells vs 9)) (PcPost S B b (rows ++ partsR gk ok 0 A) w) := by
  have hHS : ∀ k, S k → k < w.heap.size := by obtain ⟨v, -, -, -, -, -, -, hh⟩ := h; exact hh
  have hg := World.grownBy_alloc w (.cells vs 9) none
  have hA0 := heap_alloc_new w (.cells vs 9)
  have hsz : (w.alloc (.cells vs 9)).heap.size = w.heap.size + 1 := by simp
  have hW := h.more hg (Nat.le_refl _) (by rw [hsz]; omega)
  have d6 := hg.cell c6 (by have := hHS _ hSf; simp)
  generalize (w.alloc (.cells vs 9)) = W at *
  refine (parts_c9 (fun k => S k ∨ k = w.heap.size) B b rows fg fo gk ok kn ck w.heap.size 0 m cs A W hW (by omega) hA hm hk hm9 d6 (.inl hSf) (.inr rfl) (fun i l hi => ?_)).mono ?_
  · rw [cell_of_row W w.heap.size (0 + i) _ _ (0, 0) hA0, hvs]
    simp [hi]
  · rintro e w2 ⟨rfl, hw2, hf2⟩
    exact ⟨rfl, hw2.less, (Fr2.none hg).trans (hf2.mono (fun k hk e => hk (.inl e)))⟩
set_option maxRecDepth 100000 in
set_option maxHeartbeats 16000000 in
theorem bare_if (S : Nat → Prop) (B b : Nat) (rows : List (List Value)) (fg fo gk ok ck : Nat) (w : World) (h : WrAt S B b w rows) (hl : rows.length ≤ 700000) (hSf : S fg)
    (c0 : w.cell? ⟨fg, fo, none⟩ = some (.int .i64 21)) (c6 : w.cell? ⟨fg, fo + 6, none⟩ = some (.slice (some ⟨gk, ok, none⟩) 3 ck)) :
    Calls Tryz.prog 62 #[.pointer (some ⟨b, 0, none⟩), .pointer (some ⟨fg, fo, none⟩)] w (PcPost S B b (rows ++ partsR gk ok 0 [[105, 102, 32], [32, 116, 104, 101, 110, 32], [32, 101, 108, 115, 101, 32]]) w) := by
  have HP := Lib.hid (parts_new S B b rows fg fo gk ok 3 ck 3 3 [[105, 102, 32], [32, 116, 104, 101, 110, 32], [32, 101, 108, 115, 101, 32]] _ w h hl rfl (by omega) (by omega) (by omega) rfl c6 hSf)
  clear h hl hSf c6
  go_enter Tryz.func62, Tryz.ntmps62
  go_wp2_with fail
  refine HP.out.mono ?_
  rintro e w2 ⟨rfl, hw2, hf2⟩
  have HW2 := Lib.hid hw2; have HF2 := Lib.hid hf2
  clear hw2 hf2
  go_wp2_with fail
  go_end0
  exact ⟨rfl, HW2.out, HF2.out⟩
set_option maxRecDepth 100000 in
set_option maxHeartbeats 16000000 in
theorem bare_assert (S : Nat → Prop) (B b : Nat) (rows : List (List Value)) (fg fo gk ok ck : Nat) (w : World) (h : WrAt S B b w rows) (hl : rows.length ≤ 700000) (hSf : S fg)
    (c0 : w.cell? ⟨fg, fo, none⟩ = some (.int .i64 23)) (c6 : w.cell? ⟨fg, fo + 6, none⟩ = some (.slice (some ⟨gk, ok, none⟩) 2 ck)) :
    Calls Tryz.prog 62 #[.pointer (some ⟨b, 0, none⟩), .pointer (some ⟨fg, fo, none⟩)] w (PcPost S B b (rows ++ partsR gk ok 0 [[97, 115, 115, 101, 114, 116, 32], [32, 105, 110, 32]]) w) := by
  have HP := Lib.hid (parts_new S B b rows fg fo gk ok 2 ck 2 2 [[97, 115, 115, 101, 114, 116, 32], [32, 105, 110, 32]] _ w h hl rfl (by omega) (by omega) (by omega) rfl c6 hSf)
  clear h hl hSf c6
  go_enter Tryz.func62, Tryz.ntmps62
  go_wp2_with fail
  refine HP.out.mono ?_
  rintro e w2 ⟨rfl, hw2, hf2⟩
  have HW2 := Lib.hid hw2; have HF2 := Lib.hid hf2
  clear hw2 hf2
  go_wp2_with fail
  go_end0
  exact ⟨rfl, HW2.out, HF2.out⟩
theorem cat_let (l : List UInt8) : ((⟨#[108, 101, 116, 32]⟩ : ByteArray) ++ (⟨l.toArray⟩ : ByteArray) ++ (⟨#[32, 61, 32]⟩ : ByteArray)) = ⟨([108, 101, 116, 32] ++ l ++ [32, 61, 32]).toArray⟩ := by
  apply ByteArray.ext
  rw [ByteArray.data_append, ByteArray.data_append]
  apply Array.toList_inj.1
  simp
set_option maxRecDepth 100000 in
set_option maxHeartbeats 16000000 in
theorem bare_let (S : Nat → Prop) (B b : Nat) (rows : List (List Value)) (fg fo gk ok ck : Nat) (nm : List UInt8) (w : World) (h : WrAt S B b w rows) (hl : rows.length ≤ 700000) (hnl : nm.length ≤ 60000) (hSf : S fg)
    (c0 : w.cell? ⟨fg, fo, none⟩ = some (.int .i64 22)) (c1 : w.cell? ⟨fg, fo + 1, none⟩ = some (.string ⟨nm.toArray⟩)) (c6 : w.cell? ⟨fg, fo + 6, none⟩ = some (.slice (some ⟨gk, ok, none⟩) 2 ck)) :
    Calls Tryz.prog 62 #[.pointer (some ⟨b, 0, none⟩), .pointer (some ⟨fg, fo, none⟩)] w (PcPost S B b (rows ++ partsR gk ok 0 [[108, 101, 116, 32] ++ nm ++ [32, 61, 32], [32, 105, 110, 32]]) w) := by
  have HP := Lib.hid (parts_new S B b rows fg fo gk ok 2 ck 2 2 [[108, 101, 116, 32] ++ nm ++ [32, 61, 32], [32, 105, 110, 32]] #[.string ((⟨#[108, 101, 116, 32]⟩ : ByteArray) ++ (⟨nm.toArray⟩ : ByteArray) ++ (⟨#[32, 61, 32]⟩ : ByteArray)), .string ⟨#[32, 105, 110, 32]⟩] w h hl rfl (by omega) (by omega) (by omega) (by rw [cat_let]; rfl) c6 hSf)
  have z4 : ¬ 9223372036854775807 < 4 + nm.length := by omega
  have z5 : ¬ 9223372036854775807 < 4 + nm.length + 3 := by omega
  have z6 : ¬ 9223372036854775807 < nm.length + 4 := by omega
  have z7 : ¬ 9223372036854775807 < nm.length + 4 + 3 := by omega
  have z8 : ¬ 9223372036854775807 < nm.length + 7 := by omega
  clear h hl hSf c6 hnl
  go_enter Tryz.func62, Tryz.ntmps62
  go_wp2_with fail
  refine HP.out.mono ?_
  rintro e w2 ⟨rfl, hw2, hf2⟩
  have HW2 := Lib.hid hw2; have HF2 := Lib.hid hf2
  clear hw2 hf2
  go_wp2_with fail
  go_end0
  exact ⟨rfl, HW2.out, HF2.out⟩

def PcAt (F : Nat → Prop) (w : World) : Pc → List Value → Prop
  | .bs l, r => r = rowB l
  | .ex x least, r => ∃ g o q, r = rowX g o ((least : Nat) : Int) ∧ F g ∧ g < w.heap.size ∧ SAt F w x q ∧ ∀ i v, q[i]? = some v → w.cell? ⟨g, o + i, none⟩ = some v
def PcsAt (F : Nat → Prop) (w : World) : List Pc → List (List Value) → Prop
  | [], r => r = []
  | p :: l, r => ∃ q r', r = q :: r' ∧ PcAt F w p q ∧ PcsAt F w l r'
theorem PcAt.same {F S : Nat → Prop} {w w' : World} (hg : Fr2 S w w') (hS : ∀ k, F k → ¬ S k) {p : Pc} {r : List Value} (h : PcAt F w p r) : PcAt F w' p r := by
  cases p with
  | bs l => exact h
  | ex x least =>
    obtain ⟨g, o, q, h1, h2, h3, h4, h5⟩ := h
    exact ⟨g, o, q, h1, h2, Nat.lt_of_lt_of_le h3 hg.size, h4.same hg hS, fun i v hi => by rw [World.cell?_of_block (w := w) (hg.block g h3 (hS _ h2))]; exact h5 i v hi⟩
theorem PcsAt.same {F S : Nat → Prop} {w w' : World} (hg : Fr2 S w w') (hS : ∀ k, F k → ¬ S k) : ∀ {l : List Pc} {r : List (List Value)}, PcsAt F w l r → PcsAt F w' l r
  | [], r, h => h
  | p :: l, r, h => by
    obtain ⟨q, r', h1, h2, h3⟩ := h
    exact ⟨q, r', h1, h2.same hg hS, PcsAt.same hg hS h3⟩
theorem PcsAt.app {F : Nat → Prop} {w : World} : ∀ {l l2 : List Pc} {r r2 : List (List Value)}, PcsAt F w l r → PcsAt F w l2 r2 → PcsAt F w (l ++ l2) (r ++ r2)
  | [], l2, r, r2, h, h2 => by have h : r = [] := h; subst h; exact h2
  | p :: l, l2, r, r2, h, h2 => by
    obtain ⟨q, r', rfl, h3, h4⟩ := h
    exact ⟨q, r' ++ r2, rfl, h3, PcsAt.app h4 h2⟩
theorem PcsAt.len {F : Nat → Prop} {w : World} : ∀ {l : List Pc} {r : List (List Value)}, PcsAt F w l r → r.length = l.length
  | [], r, h => by have h : r = [] := h; subst h; rfl
  | p :: l, r, h => by
    obtain ⟨q, r', rfl, h3, h4⟩ := h
    simp [PcsAt.len h4]
def BarePost (S F : Nat → Prop) (B b : Nat) (rows : List (List Value)) (ps : List Pc) (w : World) (e : Ending) (w' : World) : Prop := e = .returned (.tuple #[]) ∧ ∃ R, WrAt S B b w' (rows ++ R) ∧ PcsAt F w' ps R ∧ Fr2 (fun k => ¬ S k) w w'
theorem of_pc {S F : Nat → Prop} {B b : Nat} {rows R : List (List Value)} {ps : List Pc} {w w' : World} {e : Ending} (h : PcPost S B b (rows ++ R) w e w') (hp : PcsAt F w ps R) (hF : ∀ k, F k → S k) : BarePost S F B b rows ps w e w' := by
  obtain ⟨h1, h2, h3⟩ := h
  exact ⟨h1, R, h2, hp.same h3 (fun k hk e => e (hF k hk)), h3⟩
theorem kid_pc {F : Nat → Prop} {w : World} {gk ok : Nat} {ks : List Sx} {rows : List (List Value)} (hG : GAt 8 w (some ⟨gk, ok, none⟩) rows) (hl : LsS F w ks rows) (hF : F gk) (hfl : Flat w gk) {j : Nat} {x : Sx} (hx : ks[j]? = some x) (least : Nat) : PcAt F w (.ex x least) (rowX gk (ok + j * 8) ((least : Nat) : Int)) := by
  obtain ⟨q, hq, hx2⟩ := hl.get hx
  have hgw : gk < w.heap.size := by obtain ⟨cs, T, h⟩ := hfl; exact hlt h
  rcases hG with h | ⟨g, off, he, -, hc⟩
  · subst h; simp at hq
  · simp only [Option.some.injEq, Addr.mk.injEq, and_true] at he
    obtain ⟨rfl, rfl⟩ := he
    exact ⟨gk, ok + j * 8, q, rfl, hF, hgw, hx2, fun i v hi => hc j q hq i v hi⟩
theorem getD_some {ks : List Sx} {j : Nat} (h : j < ks.length) : ks[j]? = some (ks.getD j nilS) := by
  rw [List.getD_eq_getElem?_getD, List.getElem?_eq_getElem h]; rfl
theorem argsP_snoc (x : Sx) : ∀ l : List Sx, argsP (l ++ [x]) = argsP l ++ (if l.length = 0 then [] else [.bs [44, 32]]) ++ [.ex x 0]
  | [] => by simp [argsP]
  | [y] => by simp [argsP]
  | y :: z :: l => by
    have h := argsP_snoc x (z :: l)
    simp only [List.cons_append] at h ⊢
    simp only [argsP, h]
    simp
theorem args_pc {F : Nat → Prop} {w : World} {gk ok : Nat} {ks : List Sx} (hk : ∀ (j : Nat) (x : Sx), ks[j]? = some x → PcAt F w (.ex x 0) (rowX gk (ok + j * 8) 0)) : ∀ n, n ≤ ks.length → PcsAt F w (argsP (ks.take n)) (argsR [44, 32] gk ok n)
  | 0, _ => by simp [argsP, argsR, PcsAt]
  | n + 1, h => by
    have hx := getD_some (ks := ks) (j := n) (by omega)
    rw [List.take_add_one, hx]
    show PcsAt F w (argsP (ks.take n ++ [ks.getD n nilS])) _
    rw [argsP_snoc, List.length_take, Nat.min_eq_left (by omega)]
    refine PcsAt.app (PcsAt.app (args_pc hk n (by omega)) ?_) ⟨_, [], rfl, hk _ _ hx, rfl⟩
    by_cases h0 : n = 0
    · rw [if_pos h0, if_pos h0]; rfl
    · rw [if_neg h0, if_neg h0]; exact ⟨_, [], rfl, rfl, rfl⟩

set_option maxRecDepth 100000 in
theorem bare_c9 (S F : Nat → Prop) (B b : Nat) (rows : List (List Value)) (fg fo : Nat) (op : Int) (nm md : List UInt8) (nu : Int) (ys : Bool) (ks : List Sx) (ps : Int) (q : List Value) (w : World) (h : WrAt S B b w rows) (hl : rows.length ≤ 700000) (hF : ∀ k, F k → S k) (hSg : S 0) (hla : LaidW w)
    (hx : SAt F w (.mk op nm md nu ys ks ps) q) (hSf : S fg) (hc : ∀ i v, q[i]? = some v → w.cell? ⟨fg, fo + i, none⟩ = some v)
    (h1 : 1 ≤ op) (h2 : op ≤ 24) (hn : countB op ks.length = true) (hnl : nm.length ≤ 60000) (hml : md.length ≤ 60000) (hZ : nu.natAbs < Zd.Lim) :
    Calls Tryz.prog 62 #[.pointer (some ⟨b, 0, none⟩), .pointer (some ⟨fg, fo, none⟩)] w (BarePost S F B b rows (bareP (.mk op nm md nu ys ks ps)) w) := by
  simp only [SAt] at hx
  obtain ⟨s, pw, nw, cw, pk, ck, kr, rfl, hi, -, hG, hls, hk⟩ := hx
  have c0 := hc 0 _ rfl
  have c1 := hc 1 _ rfl
  have c2 := hc 2 _ rfl
  have c3 := hc 3 _ rfl
  have c4 := hc 4 _ rfl
  have c5 := hc 5 _ rfl
  have c6 := hc 6 _ rfl
  clear hc
  unfold strV at c1 c2
  have hbs : ∀ l, PcsAt F w [Pc.bs l] [rowB l] := fun l => ⟨_, [], rfl, rfl, rfl⟩
  have hone : ∀ {p : Pc} {r : List Value}, PcAt F w p r → PcsAt F w [p] [r] := fun h => ⟨_, [], rfl, h, rfl⟩
  obtain ⟨gk, ok, hpk, hkp⟩ : ∃ gk ok, (0 < ks.length → pk = some ⟨gk, ok, none⟩) ∧ ∀ (j : Nat) (x : Sx) (least : Nat), ks[j]? = some x → PcAt F w (.ex x least) (rowX gk (ok + j * 8) ((least : Nat) : Int)) := by
    by_cases h0 : ks = []
    · subst h0; exact ⟨0, 0, fun h => absurd h (by simp), fun j x least h => by simp at h⟩
    · obtain ⟨a, rfl, hFa, hfl⟩ := hk h0
      have hG0 := hG
      rcases hG with hG | ⟨g, off, he, -, -⟩
      · exact absurd (List.eq_nil_of_length_eq_zero (by rw [← hls.len, hG]; rfl)) h0
      · injection he with he
        subst he
        exact ⟨g, off, fun _ => rfl, fun j x least hx => kid_pc hG0 hls hFa hfl hx least⟩
  have hK : ∀ (j least : Nat), j < ks.length → PcAt F w (.ex (ks.getD j nilS) least) (rowX gk (ok + j * 8) ((least : Nat) : Int)) := fun j least hj => hkp j _ least (getD_some hj)
  clear hk hG hls
  unfold countB at hn
  simp only [bareP]
  by_cases e1 : op = 1
  · subst e1
    exact (bare_lit S B b rows fg fo nu s pw nw cw w h hl c0 c3 c4 hi hZ).mono (fun e w' h => of_pc h (hbs _) hF)
  rw [if_neg e1]
  by_cases e2 : op = 2
  · subst e2
    exact (bare_truth S B b rows fg fo ys w h hl c0 c5).mono (fun e w' h => of_pc h (hbs _) hF)
  rw [if_neg e2]
  by_cases e3 : op = 3
  · subst e3
    exact (bare_word S B b rows fg fo nm 3 (.inl rfl) w h hl c0 c1).mono (fun e w' h => of_pc h (hbs _) hF)
  rw [if_neg e3]
  by_cases e4 : op = 4
  · subst e4
    exact (bare_word S B b rows fg fo nm 4 (.inr rfl) w h hl c0 c1).mono (fun e w' h => of_pc h (hbs _) hF)
  rw [if_neg e4]
  rw [if_neg (by omega)] at hn
  by_cases e5 : op = 5 ∨ op = 6
  · rw [if_pos (by omega)] at hn
    have hn := of_decide_eq_true hn
    rw [hn, hpk (by omega)] at c6
    have h9 := bare_one S B b rows fg fo gk ok ck op e5 w h hl hSf c0 c6
    refine h9.mono (fun e w' h => ?_)
    rcases e5 with rfl | rfl
    · exact of_pc h (PcsAt.app (hbs _) (hone (hK 0 9 (by omega)))) hF
    · exact of_pc h (PcsAt.app (hbs _) (hone (hK 0 4 (by omega)))) hF
  rw [if_neg (by omega), if_neg (by omega)]
  rw [if_neg (by omega)] at hn
  by_cases e21 : op = 21
  · subst e21
    rw [if_neg (by omega), if_pos rfl] at hn
    have hn := of_decide_eq_true hn
    rw [hn, hpk (by omega)] at c6
    refine (bare_if S B b rows fg fo gk ok ck w h hl hSf c0 c6).mono (fun e w' h => of_pc h ?_ hF)
    exact ⟨_, _, rfl, rfl, _, _, rfl, hK 0 0 (by omega), _, _, rfl, rfl, _, _, rfl, hK 1 0 (by omega), _, _, rfl, rfl, _, _, rfl, hK 2 0 (by omega), rfl⟩
  rw [if_neg e21]
  by_cases e22 : op = 22
  · subst e22
    rw [if_pos (by omega)] at hn
    have hn := of_decide_eq_true hn
    rw [hn, hpk (by omega)] at c6
    refine (bare_let S B b rows fg fo gk ok ck nm w h hl hnl hSf c0 c1 c6).mono (fun e w' h => of_pc h ?_ hF)
    exact ⟨_, _, rfl, rfl, _, _, rfl, hK 0 0 (by omega), _, _, rfl, rfl, _, _, rfl, hK 1 0 (by omega), rfl⟩
  rw [if_neg e22]
  by_cases e23 : op = 23
  · subst e23
    rw [if_pos (by omega)] at hn
    have hn := of_decide_eq_true hn
    rw [hn, hpk (by omega)] at c6
    refine (bare_assert S B b rows fg fo gk ok ck w h hl hSf c0 c6).mono (fun e w' h => of_pc h ?_ hF)
    exact ⟨_, _, rfl, rfl, _, _, rfl, hK 0 0 (by omega), _, _, rfl, rfl, _, _, rfl, hK 1 0 (by omega), rfl⟩
  rw [if_neg e23]
  by_cases e24 : op = 24
  · subst e24
    rw [if_neg (by omega), if_neg (by omega)] at hn
    have hn := of_decide_eq_true hn
    refine (bare_call S B b rows fg fo gk ok ks.length ck pk nm md w h hl hn hnl hml hSf hpk c0 c1 c2 c6).mono (fun e w' h => of_pc h ?_ hF)
    have ha := args_pc (F := F) (w := w) (gk := gk) (ok := ok) (ks := ks) (fun j x hx => hkp j x 0 hx) ks.length (Nat.le_refl _)
    rw [List.take_length] at ha
    refine PcsAt.app (PcsAt.app (PcsAt.app ?_ (hbs _)) ha) (hbs _)
    by_cases hm : md = []
    · rw [if_pos hm, if_pos hm]; rfl
    · rw [if_neg hm, if_neg hm]; exact hbs _
  rw [if_neg e24]
  rw [if_pos (by omega)] at hn
  have hn := of_decide_eq_true hn
  rw [hn, hpk (by omega)] at c6
  obtain ⟨j, rfl⟩ : ∃ j : Nat, op = ((7 + j : Nat) : Int) := ⟨(op - 7).toNat, by omega⟩
  have hj : j < signs9.length := by show j < 14; omega
  have hsg := List.getElem?_eq_getElem hj
  refine (bare_signed S B b rows fg fo gk ok ck j _ w h hl hsg hSf hSg hla c0 c6).mono (fun e w' h => of_pc h ?_ hF)
  rw [signT_get hsg]
  exact ⟨_, _, rfl, hK 0 _ (by omega), _, _, rfl, rfl, _, _, rfl, by have := hK 1 (sideB (levS ((7 + j : Nat) : Int))) (by omega); rwa [Nat.one_mul] at this, rfl⟩

/-- What the document's Lex answers. -/
def RLexPost (l : List UInt8) (w : World) (e : Ending) (w' : World) : Prop :=
  w.grownBy w' none ∧ if 65536 < l.length then e = .returned (.tuple #[.slice none 0 0, .int .i64 11, .int .i64 0])
    else if (allE l).2.1 ≠ 0 then e = .returned (.tuple #[.slice none 0 0, .int .i64 ((allE l).2.1 : Nat), .int .i64 ((allE l).2.2 : Nat)])
    else ∃ q c, e = .returned (.tuple #[.slice q (allE l).1.length c, .int .i64 0, .int .i64 0]) ∧ TAt w' q (allE l).1 ∧ (allE l).1.length ≤ c ∧ c ≤ maxLen

theorem rbig_post {s : ByteArray} {w w' : World} {e : Ending} (hs : 65536 < s.size) (hg : w.grownBy w' none) (he : e = .returned (.tuple #[.slice none 0 0, .int .i64 11, .int .i64 0])) : RLexPost s.data.toList w e w' := by
  refine ⟨hg, ?_⟩
  rw [list_len, if_pos hs]; exact he
theorem rfault_post {s : ByteArray} {w w' : World} {e : Ending} {n p : Nat} (hs : ¬ 65536 < s.size) (hf : (allE s.data.toList).2 = (n, p)) (hn : n ≠ 0) (hg : w.grownBy w' none) (he : e = .returned (.tuple #[.slice none 0 0, .int .i64 (n : Int), .int .i64 (p : Int)])) : RLexPost s.data.toList w e w' := by
  refine ⟨hg, ?_⟩
  rw [list_len, if_neg hs, hf, if_pos hn]; exact he
theorem rdone_post {s : ByteArray} {w w' : World} {e : Ending} {O : List Tok} {q : Option Addr} {c : Nat} (hs : ¬ 65536 < s.size) (hf : allE s.data.toList = (O, 0, 0)) (hg : w.grownBy w' none) (he : e = .returned (.tuple #[.slice q O.length c, .int .i64 0, .int .i64 0])) (ht : TAt w' q O) (h1 : O.length ≤ c) (h2 : c ≤ maxLen) : RLexPost s.data.toList w e w' := by
  refine ⟨hg, ?_⟩
  rw [list_len, if_neg hs, hf, if_neg (by simp)]; exact ⟨q, c, he, ht, h1, h2⟩

set_option maxRecDepth 100000 in
set_option maxHeartbeats 8000000 in
theorem RLex_c (s : ByteArray) (w : World) (hs : s.size ≤ 1000000) : Calls Tryz.prog 59 #[.string s] w (RLexPost s.data.toList w) := by
  by_cases hbig : 65536 < s.size
  · have d1 : decide ((65536 : Int) < (s.size : Int)) = true := decide_eq_true (by omega)
    have d1' : decide (65536 < s.size) = true := decide_eq_true hbig
    go_enter Tryz.func59, Tryz.ntmps59
    go_wp2_with fail
    go_ret3
    exact rbig_post hbig (gb_refl _ _) rfl
  · have d1 : decide ((65536 : Int) < (s.size : Int)) = false := decide_eq_false (by omega)
    have d1' : decide (65536 < s.size) = false := decide_eq_false hbig
    have HBIG := Lib.hid hbig
    go_enter Tryz.func59, Tryz.ntmps59
    go_wp2_with fail
    clear d1 d1'
    go_loopw [5, 6] (fun ov pv wr => ∃ (p : Nat) (O : List Tok), p ≤ s.size ∧ pv = .int .i64 p ∧ Hid (RestE s.data.toList O p) ∧ Hid (OwnT 121 wr w.heap.size ov O) ∧ Hid (w.grownBy wr none)) (fun _ pv _ => s.size - (intOf pv).toNat)
    case atStart => exact ⟨0, [], Nat.zero_le _, rfl, Lib.hid (RestE.start _), Lib.hid (OwnT.nil _ _ _), gb_refl _ _⟩
    case round =>
      obtain ⟨p, O, hp, rfl, HR, HO, HG⟩ := hrel
      obtain ⟨a, k, z, ha, hkz, hk5, hpz, hst, htk⟩ := tok_parts s hp
      have HLE := Lib.hid (rlead_c s p wr hs hp)
      rw [ha] at HLE
      have HRB : Hid (∀ h : wrongE k (s.extract (p + a) (p + a + z)).data.toList = 0, k ≠ 5 → 0 < a + z) := Lib.hid (fun h h5 => by
        have := (HR.out.more (by rw [htk]; exact h) (by rw [htk]; exact h5)).2
        rw [hst] at this; exact this)
      obtain ⟨b, hb⟩ : ∃ b, p + a = b := ⟨_, rfl⟩
      have hpb : p ≤ b := by omega
      have hst2 : p + stepE (s.data.toList.drop p) = b + z := by rw [hst]; omega
      rw [hb] at HLE hkz hpz htk HRB
      have HTK := Lib.hid htk; have HST := Lib.hid hst2; have HAB := Lib.hid hb
      have HLN : Hid (O.length ≤ 1000000) := Lib.hid (by have := HR.out.2.1; omega)
      clear ha htk hst hst2 hb
      by_cases hend : b = s.size
      · have hdr : s.data.toList.drop b = [] := drop_end (by omega)
        rw [hdr] at hkz
        have hk : k = 5 ∧ z = 0 := by simp [firstE] at hkz; omega
        obtain ⟨rfl, rfl⟩ := hk
        have HTV : Hid (tokV (tokE (s.data.toList.drop p) p) = [.int .i64 5, .string (s.extract p b), .string ⟨#[]⟩, .int .i64 (b : Int)]) := Lib.hid (by
          have : (s.extract b (b + 0)) = ⟨#[]⟩ := ba_data _ (by rw [ext_take, hdr]; rfl)
          rw [HTK.out, this]; rfl)
        have HAL : Hid (allE s.data.toList = (O ++ [tokE (s.data.toList.drop p) p], 0, 0)) := Lib.hid (HR.out.done (by rw [HTK.out]; rfl) (by rw [HTK.out]))
        have e1 : ((b : Int) == (s.size : Int)) = true := by rw [hend]; simp
        have e1' : (b == s.size) = true := by rw [hend]; simp
        have hbs : b ≤ s.size := by omega
        clear hkz hdr hend
        go_wp2_with fail
        refine HLE.out.mono ?_
        rintro e w1 ⟨rfl, rfl⟩
        clear HLE
        go_wp2_with (at_builtin; go_loud (refine wpList_appT (t := 117) (T := 121) Tryz.underlying117 infoR rfl (by omega) rfl _ _ rfl w.heap.size O (tokE (s.data.toList.drop p) p) _ _ _ _ HTV.out u5 rfl HO.out _ rfl rfl HLN.out HG.out.size ?_))
        intro g' cap' w6 hO6 hB6
        have HO6 := Lib.hid hO6
        have HG6 : Hid (w.grownBy w6 none) := Lib.hid (below_gb (Below.trans2 (gb_below HG.out) hB6))
        clear hO6 hB6 HO
        obtain ⟨q, c, hq, hqt, hc1, hc2, hqb⟩ := HO6.out.is
        injection hq with hq1 hq2 hq3
        subst hq1; subst hq3
        rw [List.length_append, List.length_singleton] at hc1
        have HQT := Lib.hid hqt; have HC := Lib.hid hc1; have HC2 := Lib.hid hc2
        have HLL : Hid ((O ++ [tokE (s.data.toList.drop p) p]).length = O.length + 1) := Lib.hid (by simp)
        clear hqt hc1 hc2 hqb hq2
        go_wp2_with fail
        go_ret3
        rw [← HLL.out]
        exact rdone_post HBIG.out HAL.out HG6.out rfl HQT.out (by rw [HLL.out]; exact HC.out) HC2.out
      · have hbs : b < s.size := by omega
        have e1 : ((b : Int) == (s.size : Int)) = false := beq_eq_false_iff_ne.2 (by omega)
        have e1' : (b == s.size) = false := beq_eq_false_iff_ne.2 hend
        obtain ⟨n, hn⟩ : ∃ n, wrongE k (s.extract b (b + z)).data.toList = n := ⟨_, rfl⟩
        have HN := Lib.hid hn
        have hk5n : k ≠ 5 := fun e => by
          have h1 := (firstE_kind (s.data.toList.drop b)).2
          rw [hkz] at h1
          have := h1.1 e
          rw [drop_at hbs] at this; cases this
        have HTO := Lib.hid (rtoken_c s b wr hs hbs)
        unfold TokPost at HTO
        rw [hkz] at HTO
        simp only at HTO
        rw [← ext_take, hn] at HTO
        clear hn hkz hend
        by_cases hn0 : n = 0
        · subst hn0
          have hTO := HTO.out
          simp only [ne_eq, not_true_eq_false, if_false] at hTO
          have HTO2 := Lib.hid hTO
          clear hTO HTO
          obtain ⟨c, hc⟩ : ∃ c, b + z = c := ⟨_, rfl⟩
          rw [hc] at HTO2 HTK hpz HST
          have hbc : b ≤ c := by omega
          have HTV : Hid (tokV (tokE (s.data.toList.drop p) p) = [.int .i64 (k : Int), .string (s.extract p b), .string (s.extract b c), .int .i64 (b : Int)]) := Lib.hid (by rw [HTK.out]; rfl)
          have hr2 := (HR.out.more (by rw [HTK.out]; simp only; rw [← hc]; exact HN.out) (by rw [HTK.out]; exact hk5n)).1
          rw [HST.out] at hr2
          have hpc : p < c := by have := HRB.out HN.out hk5n; have := HAB.out; omega
          have HR2 := Lib.hid hr2
          clear hr2 hc
          go_wp2_with fail
          refine HLE.out.mono ?_
          rintro e w1 ⟨rfl, rfl⟩
          clear HLE
          go_wp2_with fail
          refine HTO2.out.mono ?_
          rintro e w1 ⟨hg1, rfl⟩
          have HG1 := Lib.hid (gb_trans HG.out hg1)
          have HO1 := Lib.hid (HO.out.kept hg1)
          clear hg1 HTO2 HO HG
          go_wp2_with fail
          obtain ⟨hx, hxe⟩ : ∃ hx, w1.heap.size = hx := ⟨_, rfl⟩
          have hgb := World.grownBy_alloc w1 (.cells #[.int .i64 (k : Int), .string (s.extract p b), .string (s.extract b c), .int .i64 (b : Int)] 121) none
          have hnew := heap_alloc_new w1 (.cells #[.int .i64 (k : Int), .string (s.extract p b), .string (s.extract b c), .int .i64 (b : Int)] 121)
          have hta : (tokV (tokE (s.data.toList.drop p) p)).toArray = #[.int .i64 (k : Int), .string (s.extract p b), .string (s.extract b c), .int .i64 (b : Int)] := by rw [HTV.out]
          rw [hxe, ← hta] at hnew
          rw [← hta] at hgb
          have hbs2 : b ≤ s.size := by omega
          have HNEW := Lib.hid hnew; have HHX := Lib.hid hxe
          have HO5 := Lib.hid (HO1.out.kept hgb); have HG6 := Lib.hid (gb_trans HG1.out hgb)
          rw [hta] at HNEW HO5 HG6
          clear hgb hnew hta HO1
          go_region_law (refine step_appT (t := 117) (T := 121) Tryz.underlying117 infoR rfl (by omega) rfl _ _ rfl w.heap.size O (tokE (s.data.toList.drop p) p) u5 rfl (HO5.out.kept (gb_drew (gb_refl _ _))) hx (by rw [HTV.out]; exact HNEW.out) rfl HLN.out HG6.out.size ?_; intro g9 cap9 w9 hO9 hB9; have HO9 := Lib.hid hO9; have HB9 := Lib.hid hB9; clear hO9 hB9)
          all_goals
            have HG10 : Hid (w.grownBy w9 none) := Lib.hid (below_gb (Below.trans2 (gb_below (gb_drew HG6.out)) HB9.out))
            go_wp2_with fail
            go_roundw
            case rel => exact ⟨c, _, hpz, by first | rfl | trivial, HR2, HO9, HG10⟩
            case measure => (simp [intOf] <;> omega)
        · have d1 : ((n : Int) == 0) = false := beq_eq_false_iff_ne.2 (by omega)
          have d2 : ((n : Int) != 0) = true := by rw [bne, d1]; rfl
          have hTO := HTO.out
          simp only [ne_eq, hn0, not_false_eq_true, if_true] at hTO
          have HTO2 := Lib.hid hTO
          have HFA : Hid ((allE s.data.toList).2 = (n, b)) := Lib.hid (by
            have := HR.out.fault (by rw [HTK.out]; simp only; rw [HN.out]; exact hn0)
            rw [HTK.out] at this
            simp only at this
            rw [HN.out] at this; exact this)
          clear hTO HTO
          go_wp2_with fail
          refine HLE.out.mono ?_
          rintro e w1 ⟨rfl, rfl⟩
          clear HLE
          go_wp2_with fail
          refine HTO2.out.mono ?_
          rintro e w1 ⟨hg1, rfl⟩
          have HG1 := Lib.hid (gb_trans HG.out hg1)
          clear hg1 HTO2 HG
          go_wp2_with fail
          go_ret3
          exact rfault_post HBIG.out HFA.out hn0 HG1.out rfl

set_option maxRecDepth 100000 in
set_option maxHeartbeats 8000000 in
theorem rplain_c (s : ByteArray) (w : World) (hs : s.size ≤ 60000) : Calls Tryz.prog 33 #[.string s] w (TruePost (plainB s.data.toList) w) := by
  have hN := plain_all s.data.toList
  have HL := Lib.hid (RLex_c s w (by omega))
  have hlen : s.data.toList.length ≤ 65536 := by rw [list_len]; omega
  obtain ⟨b, hb⟩ : ∃ b, plainB s.data.toList = b := ⟨_, rfl⟩
  rw [hb] at hN ⊢
  by_cases hf : (allE s.data.toList).2.1 = 0
  · have HP : Hid (∀ w1 e, RLexPost s.data.toList w e w1 → w.grownBy w1 none ∧ ∃ q c, e = .returned (.tuple #[.slice q (allE s.data.toList).1.length c, .int .i64 0, .int .i64 0]) ∧ TAt w1 q (allE s.data.toList).1) := Lib.hid (fun w1 e h => by
      unfold RLexPost at h
      obtain ⟨hg, h⟩ := h
      rw [if_neg (by omega), if_neg (by simp [hf])] at h
      obtain ⟨q, c, he, ht, -⟩ := h
      exact ⟨hg, q, c, he, ht⟩)
    by_cases h2 : (allE s.data.toList).1.length = 2
    · obtain ⟨x, y, hxy⟩ : ∃ x y, (allE s.data.toList).1 = [x, y] := by
        match hA : (allE s.data.toList).1, h2 with
        | [x, y], _ => exact ⟨x, y, rfl⟩
      have hbb : b = (decide (x.kind = 1) && decide (x.text = s.data.toList)) := by
        cases b with
        | false =>
          have h3 := mt hN.1 (by simp)
          cases hd : (decide (x.kind = 1) && decide (x.text = s.data.toList)) with
          | false => rfl
          | true =>
            simp only [Bool.and_eq_true, decide_eq_true_eq] at hd
            exact absurd ⟨hf, x, y, hxy, hd.1, hd.2⟩ h3
        | true =>
          obtain ⟨-, x', y', e, h4, h5⟩ := hN.2 rfl
          rw [hxy] at e
          simp only [List.cons.injEq, and_true] at e
          obtain ⟨rfl, rfl⟩ := e
          simp [h4, h5]
      rw [hxy] at HP
      have HB := Lib.hid hbb
      have HK : Hid (((x.kind : Int) == 1) = decide (x.kind = 1)) := Lib.hid (nat_beq x.kind 1)
      have HTX : Hid (strV x.text = .string ⟨x.text.toArray⟩) := Lib.hid rfl
      have HQ : Hid ((x.text == s.toList) = decide (x.text = s.data.toList)) := Lib.hid (by
        rw [toList_data]
        by_cases h : x.text = s.data.toList
        · rw [decide_eq_true h]; exact beq_iff_eq.2 h
        · rw [decide_eq_false h]; exact beq_eq_false_iff_ne.2 h)
      clear hN hf h2 hxy hb hbb hlen
      obtain ⟨k1, hk1⟩ : ∃ k, decide (x.kind = 1) = k := ⟨_, rfl⟩
      rw [hk1] at HK HB
      have HKK := HK.out
      clear hk1
      go_enter Tryz.func33, Tryz.ntmps33
      go_wp2_with fail
      refine HL.out.mono ?_
      intro e w1 hp
      obtain ⟨hg, q, c, rfl, ht⟩ := HP.out w1 e hp
      have HG := Lib.hid hg
      obtain ⟨g, off, rfl, hgl, hc⟩ := ht.resolve_left (by simp)
      obtain ⟨c0, c1, c2, c3⟩ := hc 0 x rfl
      rw [HTX.out] at c2
      simp only [Nat.zero_mul, Nat.add_zero] at c0 c1 c2 c3
      clear hg hp hc ht
      cases k1
      · go_wp2_with fail
        go_ret
        exact ⟨by rw [HB.out]; rfl, HG.out⟩
      · go_wp2_with fail
        go_ret
        exact ⟨by rw [HB.out, Bool.true_and, ← HQ.out]; rfl, HG.out⟩
    · have hbb : b = false := by
        cases b with
        | false => rfl
        | true =>
          obtain ⟨-, x', y', e, -⟩ := hN.2 rfl
          rw [e] at h2; exact absurd rfl h2
      obtain ⟨L, hL⟩ : ∃ L, (allE s.data.toList).1.length = L := ⟨_, rfl⟩
      rw [hL] at HP h2
      have e2 : ((L : Int) == 2) = false := beq_eq_false_iff_ne.2 (by omega)
      subst hbb
      clear hN hf hb hlen hL h2
      go_enter Tryz.func33, Tryz.ntmps33
      go_wp2_with fail
      refine HL.out.mono ?_
      intro e w1 hp
      obtain ⟨hg, q, c, rfl, -⟩ := HP.out w1 e hp
      have HG := Lib.hid hg
      clear hg hp
      go_wp2_with fail
      go_ret
      exact ⟨rfl, HG.out⟩
  · have hbb : b = false := by
      cases b with
      | false => rfl
      | true => exact absurd (hN.2 rfl).1 hf
    have HP : Hid (∀ w1 e, RLexPost s.data.toList w e w1 → w.grownBy w1 none ∧ e = .returned (.tuple #[.slice none 0 0, .int .i64 ((allE s.data.toList).2.1 : Nat), .int .i64 ((allE s.data.toList).2.2 : Nat)])) := Lib.hid (fun w1 e h => by
      unfold RLexPost at h
      obtain ⟨hg, h⟩ := h
      rw [if_neg (by omega), if_pos hf] at h
      exact ⟨hg, h⟩)
    obtain ⟨n, hn⟩ : ∃ n, (allE s.data.toList).2.1 = n := ⟨_, rfl⟩
    obtain ⟨m, hm⟩ : ∃ n, (allE s.data.toList).2.2 = n := ⟨_, rfl⟩
    rw [hn, hm] at HP
    rw [hn] at hf
    have e1 : ((n : Int) == 0) = false := beq_eq_false_iff_ne.2 (by omega)
    subst hbb
    clear hN hf hb hlen hn hm
    go_enter Tryz.func33, Tryz.ntmps33
    go_wp2_with fail
    refine HL.out.mono ?_
    intro e w1 hp
    obtain ⟨hg, rfl⟩ := HP.out w1 e hp
    have HG := Lib.hid hg
    clear hg hp
    go_wp2_with fail
    go_ret
    exact ⟨rfl, HG.out⟩
end Go.Proofs.YtijpelkjeejjfaaGreatDoor
