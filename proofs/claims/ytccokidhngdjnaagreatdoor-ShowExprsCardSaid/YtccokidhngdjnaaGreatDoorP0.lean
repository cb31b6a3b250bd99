/- Lemmas. -/
import Derived.BigQuiet
import Derived.Deep.AppendLies
import Derived.Deep.OwnRows
import Derived.Laws.AppendOwnNone
import Derived.Shelf.Bits.Mul64
import Derived.Shelf.Small.Bits
import Derived.Shelf.Small.Utf8
import Derived.Shelf.Small.Wraps
import Derived.Shelf.Strconv.Clone
import Derived.Shelf.Strings.AsciiSet
import Derived.Shelf.Strings.BuilderK
import Derived.Shelf.Strings.Runes
import Derived.Shelf.Strings.Shaped
import Derived.Shelf.Strings.Trim
import Derived.Shelf.Unicode.DecodeSlow
import Derived.Test.YtccokidhngdjnaaGreatDoorProg
import Derived.WalkLawsBesides
import Derived.WalkSpells
set_option linter.unusedVariables false
set_option linter.unusedSimpArgs false
namespace Go.Proofs.YtccokidhngdjnaaGreatDoor
open Go.RowKit

theorem val_of {k : IntKind} {a b : Int} (h : a = b) : Value.int k a = Value.int k b := by rw [h]

section
variable {w a b c : World} {row : Option Nat}
theorem gb_refl (w : World) (row : Option Nat) : w.grownBy w row := ⟨rfl, rfl, rfl, Nat.le_refl _, fun _ _ _ => rfl⟩
theorem gb_trans (h : a.grownBy b row) (k : b.grownBy c row) : a.grownBy c row :=
  ⟨k.os.trans h.os, k.tape.trans h.tape, k.output.trans h.output, Nat.le_trans h.size k.size, fun i hi hr => (k.block i (Nat.lt_of_lt_of_le hi h.size) hr).trans (h.block i hi hr)⟩
theorem gb_drew (h : a.grownBy b row) : a.grownBy b.drew row := ⟨h.os, h.tape, h.output, h.size, h.block⟩
theorem gb_drewN (h : a.grownBy b row) (n : Nat) : a.grownBy (b.drewN n) row := ⟨h.os, h.tape, h.output, h.size, h.block⟩
theorem gb_alloc (h : a.grownBy b row) (o : Obj) : a.grownBy (b.alloc o) row := gb_trans h (World.grownBy_alloc b o row)
theorem gb_set {g j : Nat} (h : a.grownBy b (some g)) (u : Value) : a.grownBy (b.setCell ⟨g, j, none⟩ u) (some g) :=
  gb_trans h ⟨rfl, rfl, rfl, by simp [World.setCell], fun i _ hr => Below.heap_setCell _ _ _ _ (by intro e; apply hr; rw [e])⟩
theorem gb_below (h : a.grownBy b none) : Below a.heap.size a b := ⟨h.os, h.tape, h.output, h.size, fun k hk => h.block k hk (by simp)⟩
theorem below_gb (h : Below a.heap.size a b) : a.grownBy b row := ⟨h.os, h.tape, h.output, h.size, fun k hk _ => h.block k hk⟩
theorem Below.trans2 {B : Nat} (h : Below B a b) (k : Below B b c) : Below B a c :=
  ⟨k.os.trans h.os, k.tape.trans h.tape, k.output.trans h.output, Nat.le_trans h.size k.size, fun i hi => (k.block i hi).trans (h.block i hi)⟩
theorem Below.gb {B : Nat} (h : a.grownBy b none) (hB : B ≤ a.heap.size) : Below B a b := ⟨h.os, h.tape, h.output, h.size, fun k hk => h.block k (by omega) (by simp)⟩
theorem bx {h : Nat} {o : Obj} (hg : a.grownBy b none) (hb : a.heap[h]? = some o) : b.heap[h]? = some o := (hg.block _ (Array.getElem?_eq_some_iff.1 hb).1 (by simp)).trans hb
theorem hlt {h : Nat} {o : Obj} (hb : a.heap[h]? = some o) : h < a.heap.size := (Array.getElem?_eq_some_iff.1 hb).1
end

/-- All as it was, but for blocks of S and new ones. -/
structure Fr2 (S : Nat → Prop) (w w' : World) : Prop where
  os : w'.os = w.os
  tape : w'.tape = w.tape
  output : w'.output = w.output
  size : w.heap.size ≤ w'.heap.size
  block : ∀ k, k < w.heap.size → ¬ S k → w'.heap[k]? = w.heap[k]?

theorem Fr2.refl (S : Nat → Prop) (w : World) : Fr2 S w w := ⟨rfl, rfl, rfl, Nat.le_refl _, fun _ _ _ => rfl⟩
theorem Fr2.trans {S : Nat → Prop} {a b c : World} (h : Fr2 S a b) (k : Fr2 S b c) : Fr2 S a c :=
  ⟨k.os.trans h.os, k.tape.trans h.tape, k.output.trans h.output, Nat.le_trans h.size k.size, fun i hi hr => (k.block i (Nat.lt_of_lt_of_le hi h.size) hr).trans (h.block i hi hr)⟩
theorem Fr2.of {S : Nat → Prop} {a b : World} {row : Option Nat} (h : a.grownBy b row) (hS : ∀ k, row = some k → S k) : Fr2 S a b :=
  ⟨h.os, h.tape, h.output, h.size, fun k hk hn => h.block k hk fun e => hn (hS k e.symm)⟩
theorem Fr2.below {S : Nat → Prop} {a b : World} {B : Nat} (h : Fr2 S a b) (hB : B ≤ a.heap.size) (hS : ∀ k, S k → B ≤ k) : Below B a b :=
  ⟨h.os, h.tape, h.output, h.size, fun k hk => h.block k (by omega) fun hs => by have := hS k hs; omega⟩
theorem Fr2.after {S : Nat → Prop} {a b c : World} (h : a.grownBy b none) (k : Fr2 S b c) (hS : ∀ i, S i → a.heap.size ≤ i) : a.grownBy c none :=
  ⟨k.os.trans h.os, k.tape.trans h.tape, k.output.trans h.output, Nat.le_trans h.size k.size, fun i hi _ => (k.block i (Nat.lt_of_lt_of_le hi h.size) (fun hs => by have := hS i hs; omega)).trans (h.block i hi (by simp))⟩
theorem Fr2.ofBelow {a b : World} {B : Nat} (h : Below B a b) : Fr2 (fun k => B ≤ k) a b :=
  ⟨h.os, h.tape, h.output, h.size, fun k _ hn => h.block k (by omega)⟩
theorem Fr2.low {S : Nat → Prop} {a b c : World} (h : Fr2 S a b) (k : Below a.heap.size b c) : Fr2 S a c :=
  ⟨k.os.trans h.os, k.tape.trans h.tape, k.output.trans h.output, Nat.le_trans h.size k.size, fun i hi hr => (k.block i hi).trans (h.block i hi hr)⟩
theorem Fr2.mono {S S' : Nat → Prop} {a b : World} (h : Fr2 S a b) (hS : ∀ k, S k → S' k) : Fr2 S' a b :=
  ⟨h.os, h.tape, h.output, h.size, fun k hk hn => h.block k hk fun e => hn (hS k e)⟩
theorem Fr2.none {S : Nat → Prop} {a b : World} (h : a.grownBy b none) : Fr2 S a b := Fr2.of h (fun _ e => by cases e)
theorem Fr2.keep {S : Nat → Prop} {a b : World} {k : Nat} {o : Obj} (h : Fr2 S a b) (hb : a.heap[k]? = some o) (hn : ¬ S k) : b.heap[k]? = some o := (h.block k (hlt hb) hn).trans hb
theorem Fr2.setCell {S : Nat → Prop} {a b : World} (h : Fr2 S a b) {g j : Nat} (hg : S g) (u : Value) : Fr2 S a (b.setCell ⟨g, j, Option.none⟩ u) :=
  h.trans (Fr2.of (row := some g) (gb_set (gb_refl _ _) u) (fun k e => by injection e with e; exact e ▸ hg))

theorem cells3 {w : World} {r : Nat} {u v z : Value} {T : TypeId} (h : w.heap[r]? = some (.cells #[u, v, z] T (0, 0))) : w.cell? ⟨r, 0, none⟩ = some u ∧ w.cell? ⟨r, 1, none⟩ = some v ∧ w.cell? ⟨r, 2, none⟩ = some z ∧ ∀ o, w.frozen? ⟨r, o, none⟩ = false :=
  ⟨by rw [cell_of_row w r 0 _ T (0, 0) h]; rfl, by rw [cell_of_row w r 1 _ T (0, 0) h]; rfl, by rw [cell_of_row w r 2 _ T (0, 0) h]; rfl, fun o => by simp [World.frozen?, h]⟩
theorem cells4 {w : World} {r : Nat} {a b c d : Value} {T : TypeId} (h : w.heap[r]? = some (.cells #[a, b, c, d] T (0, 0))) : w.cell? ⟨r, 0, none⟩ = some a ∧ w.cell? ⟨r, 1, none⟩ = some b ∧ w.cell? ⟨r, 2, none⟩ = some c ∧ w.cell? ⟨r, 3, none⟩ = some d ∧ ∀ o, w.frozen? ⟨r, o, none⟩ = false :=
  ⟨by rw [cell_of_row w r 0 _ T (0, 0) h]; rfl, by rw [cell_of_row w r 1 _ T (0, 0) h]; rfl, by rw [cell_of_row w r 2 _ T (0, 0) h]; rfl, by rw [cell_of_row w r 3 _ T (0, 0) h]; rfl, fun o => by simp [World.frozen?, h]⟩
theorem set_cells {W : World} {r i : Nat} {cs : Array Value} {u : Value} {T : TypeId} (hb : W.heap[r]? = some (.cells cs T (0, 0))) : (W.setCell ⟨r, i, none⟩ u).heap[r]? = some (.cells (cs.setIfInBounds i u) T (0, 0)) := by
  simp only [World.setCell, Array.getElem?_modify, hb, if_true, Option.map_some]; rfl

/-! ### Lists of values -/

/-- A slice at p reads as these values. -/
def VAt (w : World) (p : Option Addr) (vs : List Value) : Prop :=
  vs = [] ∨ ∃ g off, p = some ⟨g, off, none⟩ ∧ g < w.heap.size ∧ ∀ j v, vs[j]? = some v → w.cell? ⟨g, off + j, none⟩ = some v

theorem VAt.keptS {S : Nat → Prop} {w w' : World} {p : Option Addr} {vs : List Value} (h : VAt w p vs) (hg : Fr2 S w w') (hS : vs ≠ [] → ∀ a, p = some a → ¬ S a.block) : VAt w' p vs := by
  rcases h with h | ⟨g, off, rfl, hl, hc⟩
  · exact .inl h
  · by_cases h0 : vs = []
    · exact .inl h0
    · exact .inr ⟨g, off, rfl, Nat.lt_of_lt_of_le hl hg.size, fun j v hv => by rw [← hc j v hv]; exact World.cell?_of_block (w := w) (hg.block g hl (hS h0 ⟨g, off, none⟩ rfl))⟩

theorem VAt.kept {w w' : World} {p : Option Addr} {vs : List Value} (h : VAt w p vs) (hg : w.grownBy w' none) : VAt w' p vs := h.keptS (S := fun _ => False) (Fr2.none hg) (fun _ _ _ h => h)

theorem below_own {w0 w' : World} {base n : Nat} {e : TypeId} {size : Nat} {v : Value} {xs : List Value} (h : w0.ownsRow base e size v n xs) (hb : base ≤ w0.heap.size) (hg : w0.grownBy w' v.ownBlock) : Below base w0 w' :=
  ⟨hg.os, hg.tape, hg.output, hg.size, fun k hk => hg.block k (by omega) fun e => by have := (h.lt k e.symm).1; omega⟩

/-! ### Lists of pairs of values -/

end Go.Proofs.YtccokidhngdjnaaGreatDoor
namespace Go.Proofs.YtccokidhngdjnaaGreatDoor

def isBl (b : UInt8) : Bool := b == 32 || b == 9 || b == 13 || b == 10
def isLet (b : UInt8) : Bool := (97 ≤ b && b ≤ 122) || (65 ≤ b && b ≤ 90)
def isDig (b : UInt8) : Bool := 48 ≤ b && b ≤ 57
def inW (b : UInt8) : Bool := isLet b || isDig b || b == 95

/-- How many bytes stand ahead of the next token; true: in a remark. -/
def sk : Bool → List UInt8 → Nat
  | _, [] => 0
  | true, b :: r => if b = 10 then sk false r + 1 else sk true r + 1
  | false, b :: r => if isBl b then sk false r + 1 else if b = 45 ∧ r.head? = some 45 then sk true r + 1 else 0

theorem sk_le : ∀ (l : List UInt8) (m : Bool), sk m l ≤ l.length
  | [], m => by cases m <;> simp [sk]
  | b :: r, true => by
    have h1 := sk_le r false; have h2 := sk_le r true
    simp only [sk, List.length_cons]; split <;> omega
  | b :: r, false => by
    have h1 := sk_le r false; have h2 := sk_le r true
    simp only [sk, List.length_cons]; split
    · omega
    · split <;> omega

def runN (p : UInt8 → Bool) : List UInt8 → Nat
  | [] => 0
  | b :: r => if p b then runN p r + 1 else 0

theorem runN_le (p : UInt8 → Bool) : ∀ l : List UInt8, runN p l ≤ l.length
  | [] => Nat.le_refl _
  | b :: r => by
    have := runN_le p r
    simp only [runN, List.length_cons]; split <;> omega

theorem runN_drop (p : UInt8 → Bool) {l : List UInt8} {k : Nat} (hk : k ≤ l.length) (h1 : ∀ j b, j < k → l[j]? = some b → p b = true) (h2 : ∀ b, l[k]? = some b → p b = false) : runN p l = k := by
  induction l generalizing k with
  | nil => simp at hk; subst hk; rfl
  | cons a r ih =>
    match k, hk, h1, h2 with
    | 0, _, _, h2 => simp only [runN]; rw [h2 a rfl]; rfl
    | k + 1, hk, h1, h2 =>
      simp only [runN]
      rw [h1 0 a (by omega) rfl, ih (k := k) (by simpa using hk) (fun j b hj hb => h1 (j + 1) b (by omega) (by simpa using hb)) (fun b hb => h2 b (by simpa using hb))]
      rfl

/-- All keys, rising. -/
def keysL : List (List UInt8) := [[97, 115, 115, 101, 114, 116], [98, 111, 111, 108], [101, 108, 115, 101], [102, 97, 108, 115, 101], [102, 117, 110], [105, 102], [105, 109, 112, 111, 114, 116], [105, 110], [105, 110, 116], [108, 101, 116], [110, 111, 116], [112, 117, 98], [114, 101, 115], [116, 104, 101, 110], [116, 114, 117, 101]]

theorem keysL_len (w : List UInt8) (h : keysL.contains w = true) : w.length ≤ 6 := by
  have : ∀ g ∈ keysL, g.length ≤ 6 := by decide
  exact this w (by simpa using h)

/-- All signs. -/
def signsL : List (List UInt8) := [[40], [41], [123], [125], [44], [58], [59], [46], [43], [45], [42], [47], [37], [61], [60, 62], [60], [60, 61], [62], [62, 61], [38, 38], [124, 124], [61, 62]]

def fm (L : List (List UInt8)) (l : List UInt8) (m : Nat) : Nat := L.foldl (fun m g => if g.isPrefixOf l then max m g.length else m) m

theorem fm_snoc (L : List (List UInt8)) (g l : List UInt8) (m : Nat) : fm (L ++ [g]) l m = if g.isPrefixOf l then max (fm L l m) g.length else fm L l m := by
  unfold fm; rw [List.foldl_append]; rfl

theorem fm_up (L : List (List UInt8)) (l : List UInt8) : ∀ m, m ≤ fm L l m := by
  induction L with
  | nil => intro m; exact Nat.le_refl _
  | cons g L ih =>
    intro m
    show m ≤ fm L l (if g.isPrefixOf l then max m g.length else m)
    refine Nat.le_trans ?_ (ih _)
    split <;> omega

theorem fm_ge {L : List (List UInt8)} {g l : List UInt8} (h : g ∈ L) (hp : g.isPrefixOf l = true) : ∀ m, g.length ≤ fm L l m := by
  induction L with
  | nil => cases h
  | cons a L ih =>
    intro m
    show _ ≤ fm L l (if a.isPrefixOf l then max m a.length else m)
    rcases List.mem_cons.1 h with rfl | h
    · rw [if_pos hp]
      exact Nat.le_trans (Nat.le_max_right _ _) (fm_up L l _)
    · exact ih h _

theorem fm_le {L : List (List UInt8)} {l : List UInt8} {n : Nat} (h : ∀ g ∈ L, g.isPrefixOf l = true → g.length ≤ n) : ∀ m, m ≤ n → fm L l m ≤ n := by
  induction L with
  | nil => intro m hm; exact hm
  | cons a L ih =>
    intro m hm
    show fm L l (if a.isPrefixOf l then max m a.length else m) ≤ n
    refine ih (fun g hg => h g (List.mem_cons_of_mem _ hg)) _ ?_
    split
    · rename_i ha
      exact Nat.max_le.2 ⟨hm, h a (List.mem_cons_self ..) ha⟩
    · exact hm

def signN (l : List UInt8) : Nat := fm signsL l 0

theorem pre_len {g l : List UInt8} (h : g.isPrefixOf l = true) : g.length ≤ l.length := (List.isPrefixOf_iff_prefix.1 h).length_le

theorem signN_le (l : List UInt8) : signN l ≤ l.length := fm_le (fun g _ hp => pre_len hp) 0 (Nat.zero_le _)
theorem signN_le2 (l : List UInt8) : signN l ≤ 2 := fm_le (fun g hg _ => by
  have : ∀ g ∈ signsL, g.length ≤ 2 := by decide
  exact this g hg) 0 (Nat.zero_le _)

def twosL : List (List UInt8) := [[60, 62], [60, 61], [62, 61], [38, 38], [124, 124], [61, 62]]
def onesL : List UInt8 := [40, 41, 123, 125, 44, 58, 59, 46, 43, 45, 42, 47, 37, 61, 60, 62]

theorem signN_two {g l : List UInt8} (h : g ∈ twosL) (hp : g.isPrefixOf l = true) : signN l = 2 := by
  have h1 : ∀ g ∈ twosL, g ∈ signsL ∧ g.length = 2 := by decide
  have h2 := fm_ge (h1 g h).1 hp 0
  rw [(h1 g h).2] at h2
  exact Nat.le_antisymm (signN_le2 l) h2

theorem signN_one {a : UInt8} {r : List UInt8} (h2 : ∀ g ∈ twosL, g.isPrefixOf (a :: r) = false) (h1 : a ∈ onesL) : signN (a :: r) = 1 := by
  have hm : ∀ a ∈ onesL, [a] ∈ signsL := by decide
  have hs : ∀ g ∈ signsL, g ∈ twosL ∨ g.length = 1 := by decide
  have hp : [a].isPrefixOf (a :: r) = true := by simp [List.isPrefixOf]
  refine Nat.le_antisymm (fm_le (fun g hg hgp => ?_) 0 (by omega)) (fm_ge (hm a h1) hp 0)
  rcases hs g hg with h | h
  · rw [h2 g h] at hgp; cases hgp
  · omega

theorem signN_none {a : UInt8} {r : List UInt8} (h2 : ∀ g ∈ twosL, g.isPrefixOf (a :: r) = false) (h1 : a ∉ onesL) : signN (a :: r) = 0 := by
  have hs : ∀ g ∈ signsL, g ∈ twosL ∨ ∃ b ∈ onesL, g = [b] := by decide
  refine Nat.le_zero.1 (fm_le (fun g hg hgp => ?_) 0 (by omega))
  rcases hs g hg with h | ⟨b, hb, rfl⟩
  · rw [h2 g h] at hgp; cases hgp
  · simp [List.isPrefixOf] at hgp
    subst hgp; exact absurd hb h1

/-- The longest token that stands there: its kind, and its size. -/
def firstE : List UInt8 → Nat × Nat
  | [] => (5, 0)
  | a :: r => if isLet a then (if keysL.contains ((a :: r).take (runN inW (a :: r))) then 2 else 1, runN inW (a :: r))
    else if isDig a then (3, runN isDig (a :: r)) else if 0 < signN (a :: r) then (4, signN (a :: r)) else (0, 0)

theorem firstE_cons (a : UInt8) (r : List UInt8) : firstE (a :: r) = if isLet a then (if keysL.contains ((a :: r).take (runN inW (a :: r))) then 2 else 1, runN inW (a :: r))
    else if isDig a then (3, runN isDig (a :: r)) else if 0 < signN (a :: r) then (4, signN (a :: r)) else (0, 0) := rfl

/-- The error of a token of that kind and text. -/
def wrongE (k : Nat) (t : List UInt8) : Nat :=
  if k = 0 ∨ k = 1 ∧ 40 < t.length then 20 else if k = 3 ∧ (60 < t.length ∨ 1 < t.length ∧ t.head? = some 48) then 21 else 0

theorem firstE_le (l : List UInt8) : (firstE l).2 ≤ l.length := by
  cases l with
  | nil => exact Nat.le_refl _
  | cons a r =>
    rw [firstE_cons]
    have h1 := runN_le inW (a :: r); have h2 := runN_le isDig (a :: r); have h3 := signN_le (a :: r)
    split
    · exact h1
    · split
      · exact h2
      · split
        · exact h3
        · exact Nat.zero_le _

theorem firstE_kind (l : List UInt8) : (firstE l).1 ≤ 5 ∧ ((firstE l).1 = 5 ↔ l = []) := by
  cases l with
  | nil => exact ⟨Nat.le_refl _, by simp [firstE]⟩
  | cons a r =>
    rw [firstE_cons]
    split
    · simp only [reduceCtorEq, iff_false]; split <;> omega
    · split
      · simp
      · split <;> simp

theorem firstE_pos {l : List UInt8} (h5 : (firstE l).1 ≠ 5) (h0 : (firstE l).1 ≠ 0) : 0 < (firstE l).2 := by
  cases l with
  | nil => exact absurd rfl h5
  | cons a r =>
    rw [firstE_cons] at h0 ⊢
    split
    · rename_i h
      show 0 < runN inW (a :: r)
      simp [runN, inW, h]
    · split
      · rename_i h
        show 0 < runN isDig (a :: r)
        simp [runN, h]
      · split
        · assumption
        · rename_i h1 h2 h3
          rw [if_neg h1, if_neg h2, if_neg h3] at h0
          exact absurd rfl h0

structure Tok where
  kind : Nat
  lead : List UInt8
  text : List UInt8
  pos : Nat

def tokE (l : List UInt8) (p : Nat) : Tok := ⟨(firstE (l.drop (sk false l))).1, l.take (sk false l), (l.drop (sk false l)).take (firstE (l.drop (sk false l))).2, p + sk false l⟩
def stepE (l : List UInt8) : Nat := sk false l + (firstE (l.drop (sk false l))).2

/-- All tokens, up to the first fault; its error (0: none), and its place. -/
def lexG : Nat → List UInt8 → Nat → List Tok × Nat × Nat
  | 0, _, _ => ([], 0, 0)
  | f + 1, l, p =>
    if wrongE (tokE l p).kind (tokE l p).text ≠ 0 then ([], wrongE (tokE l p).kind (tokE l p).text, (tokE l p).pos)
    else if (tokE l p).kind = 5 then ([tokE l p], 0, 0)
    else (tokE l p :: (lexG f (l.drop (stepE l)) (p + stepE l)).1, (lexG f (l.drop (stepE l)) (p + stepE l)).2)

def allE (l : List UInt8) : List Tok × Nat × Nat := lexG (l.length + 1) l 0

theorem lexG_fault {f : Nat} {l : List UInt8} {p : Nat} (h : wrongE (tokE l p).kind (tokE l p).text ≠ 0) : lexG (f + 1) l p = ([], wrongE (tokE l p).kind (tokE l p).text, (tokE l p).pos) := by
  rw [lexG, if_pos h]
theorem lexG_end {f : Nat} {l : List UInt8} {p : Nat} (h : wrongE (tokE l p).kind (tokE l p).text = 0) (h5 : (tokE l p).kind = 5) : lexG (f + 1) l p = ([tokE l p], 0, 0) := by
  rw [lexG, if_neg (by simp [h]), if_pos h5]
theorem lexG_more {f : Nat} {l : List UInt8} {p : Nat} (h : wrongE (tokE l p).kind (tokE l p).text = 0) (h5 : (tokE l p).kind ≠ 5) : lexG (f + 1) l p = (tokE l p :: (lexG f (l.drop (stepE l)) (p + stepE l)).1, (lexG f (l.drop (stepE l)) (p + stepE l)).2) := by
  rw [lexG, if_neg (by simp [h]), if_neg h5]

theorem stepE_le (l : List UInt8) : stepE l ≤ l.length := by
  unfold stepE
  have h1 := sk_le l false; have h2 := firstE_le (l.drop (sk false l))
  rw [List.length_drop] at h2; omega

theorem stepE_pos {l : List UInt8} {p : Nat} (h : wrongE (tokE l p).kind (tokE l p).text = 0) (h5 : (tokE l p).kind ≠ 5) : 0 < stepE l := by
  have : (firstE (l.drop (sk false l))).1 ≠ 0 := fun e => by
    unfold wrongE at h
    rw [if_pos (.inl e)] at h; cases h
  have := firstE_pos h5 this
  unfold stepE; omega

/-- Where the tokens of a text stand, one round of a loop. -/
def RestE (s : List UInt8) (O : List Tok) (p : Nat) : Prop := p ≤ s.length ∧ O.length ≤ p ∧ ∃ f, s.length - p < f ∧ allE s = (O ++ (lexG f (s.drop p) p).1, (lexG f (s.drop p) p).2)

theorem RestE.start (s : List UInt8) : RestE s [] 0 := ⟨Nat.zero_le _, Nat.le_refl _, s.length + 1, by omega, by simp [allE]⟩

theorem RestE.fault {s : List UInt8} {O : List Tok} {p : Nat} (h : RestE s O p) (hw : wrongE (tokE (s.drop p) p).kind (tokE (s.drop p) p).text ≠ 0) : (allE s).2 = (wrongE (tokE (s.drop p) p).kind (tokE (s.drop p) p).text, (tokE (s.drop p) p).pos) := by
  obtain ⟨_, _, f, hf, he⟩ := h
  obtain ⟨f, rfl⟩ : ∃ f', f = f' + 1 := ⟨f - 1, by omega⟩
  rw [he, lexG_fault hw]

theorem RestE.done {s : List UInt8} {O : List Tok} {p : Nat} (h : RestE s O p) (hw : wrongE (tokE (s.drop p) p).kind (tokE (s.drop p) p).text = 0) (h5 : (tokE (s.drop p) p).kind = 5) : allE s = (O ++ [tokE (s.drop p) p], 0, 0) := by
  obtain ⟨_, _, f, hf, he⟩ := h
  obtain ⟨f, rfl⟩ : ∃ f', f = f' + 1 := ⟨f - 1, by omega⟩
  rw [he, lexG_end hw h5]

theorem RestE.more {s : List UInt8} {O : List Tok} {p : Nat} (h : RestE s O p) (hw : wrongE (tokE (s.drop p) p).kind (tokE (s.drop p) p).text = 0) (h5 : (tokE (s.drop p) p).kind ≠ 5) : RestE s (O ++ [tokE (s.drop p) p]) (p + stepE (s.drop p)) ∧ 0 < stepE (s.drop p) := by
  obtain ⟨hp, ho, f, hf, he⟩ := h
  obtain ⟨f, rfl⟩ : ∃ f', f = f' + 1 := ⟨f - 1, by omega⟩
  have h1 := stepE_le (s.drop p); have h2 := stepE_pos hw h5
  rw [List.length_drop] at h1
  refine ⟨⟨by omega, by rw [List.length_append, List.length_singleton]; omega, f, by omega, ?_⟩, h2⟩
  rw [he, lexG_more hw h5, List.drop_drop, List.append_assoc]
  rfl
end Go.Proofs.YtccokidhngdjnaaGreatDoor
namespace Go.Proofs
open Go.Shelf
def Tryz.lays169_ren : Go.Shelf.Ren := ⟨fun | 169 => 52 | n => n, fun | 70 => 105 | 9 => 9 | 0 => 0 | 72 => 107 | 37 => 95 | 127 => 140 | 3 => 3 | 5 => 5 | n => n, fun | n => n⟩
theorem Tryz.lays169 : Go.Proofs.Lays.n169 Tryz.prog Tryz.lays169_ren := {
  mixed := by kernel_rfl
  f169 := Tryz.func52.trans (congrArg some (by kernel_rfl))
  t0 := Tryz.underlying0
  a0 := Tryz.isAgg0
  z0 := Tryz.sizeOf0
  v0 := Tryz.zeroValue0
  t3 := Tryz.underlying3
  a3 := Tryz.isAgg3
  z3 := Tryz.sizeOf3
  v3 := Tryz.zeroValue3
  t9 := Tryz.underlying9
  a9 := Tryz.isAgg9
  z9 := Tryz.sizeOf9
  v9 := Tryz.zeroValue9
  t37 := Tryz.underlying95
  a37 := Tryz.isAgg95
  z37 := Tryz.sizeOf95
  v37 := Tryz.zeroValue95
  t70 := Tryz.underlying105
  a70 := Tryz.isAgg105
  z70 := Tryz.sizeOf105
  v70 := Tryz.zeroValue105
  t72 := Tryz.underlying107
  a72 := Tryz.isAgg107
  z72 := Tryz.sizeOf107
  v72 := Tryz.zeroValue107
  t127 := Tryz.underlying140
  a127 := Tryz.isAgg140
  z127 := Tryz.sizeOf140
  v127 := Tryz.zeroValue140 }
theorem Tryz.Builder_Extra_169 : Builder.Extra Tryz.prog Tryz.lays169_ren := {
  sizeBuilder := by kernel_rfl
  liesBuilder := by kernel_rfl
  t5 := Tryz.underlying5
  a5 := Tryz.isAgg5
  z5 := Tryz.sizeOf5
  v5 := Tryz.zeroValue5
  infoByte := by kernel_rfl
  cellsByte := by kernel_rfl
  sizeByte := by kernel_rfl
  neB5 := by decide }
def Tryz.lays161_ren : Go.Shelf.Ren := ⟨fun | 161 => 115 | 231 => 135 | 227 => 136 | 233 => 137 | 235 => 138 | 228 => 143 | 197 => 144 | 151 => 145 | 260 => 148 | 152 => 149 | 137 => 155 | 119 => 156 | 224 => 152 | 225 => 151 | 217 => 150 | 266 => 157 | n => n, fun | 9 => 9 | 4 => 4 | 3 => 3 | 5 => 5 | 117 => 187 | 116 => 186 | 0 => 0 | 124 => 190 | 105 => 193 | 21 => 21 | 119 => 199 | 46 => 136 | 139 => 202 | 138 => 201 | n => n, fun | 3 => 7 | 4 => 8 | n => n⟩
theorem Tryz.lays161 : Go.Proofs.Lays.n161 Tryz.prog Tryz.lays161_ren := {
  mixed := by kernel_rfl
  f119 := Tryz.func156.trans (congrArg some (by kernel_rfl))
  f137 := Tryz.func155.trans (congrArg some (by kernel_rfl))
  f151 := Tryz.func145.trans (congrArg some (by kernel_rfl))
  f152 := Tryz.func149.trans (congrArg some (by kernel_rfl))
  f161 := Tryz.func115.trans (congrArg some (by kernel_rfl))
  f197 := Tryz.func144.trans (congrArg some (by kernel_rfl))
  f217 := Tryz.func150.trans (congrArg some (by kernel_rfl))
  f224 := Tryz.func152.trans (congrArg some (by kernel_rfl))
  f225 := Tryz.func151.trans (congrArg some (by kernel_rfl))
  f227 := Tryz.func136.trans (congrArg some (by kernel_rfl))
  f228 := Tryz.func143.trans (congrArg some (by kernel_rfl))
  f231 := Tryz.func135.trans (congrArg some (by kernel_rfl))
  f233 := Tryz.func137.trans (congrArg some (by kernel_rfl))
  f235 := Tryz.func138.trans (congrArg some (by kernel_rfl))
  f260 := Tryz.func148.trans (congrArg some (by kernel_rfl))
  f266 := Tryz.func157.trans (congrArg some (by kernel_rfl))
  t0 := Tryz.underlying0
  a0 := Tryz.isAgg0
  z0 := Tryz.sizeOf0
  v0 := Tryz.zeroValue0
  t3 := Tryz.underlying3
  a3 := Tryz.isAgg3
  z3 := Tryz.sizeOf3
  v3 := Tryz.zeroValue3
  t4 := Tryz.underlying4
  a4 := Tryz.isAgg4
  z4 := Tryz.sizeOf4
  v4 := Tryz.zeroValue4
  t5 := Tryz.underlying5
  a5 := Tryz.isAgg5
  z5 := Tryz.sizeOf5
  v5 := Tryz.zeroValue5
  t9 := Tryz.underlying9
  a9 := Tryz.isAgg9
  z9 := Tryz.sizeOf9
  v9 := Tryz.zeroValue9
  t21 := Tryz.underlying21
  a21 := Tryz.isAgg21
  z21 := Tryz.sizeOf21
  v21 := Tryz.zeroValue21
  t46 := Tryz.underlying136
  a46 := Tryz.isAgg136
  z46 := Tryz.sizeOf136
  v46 := Tryz.zeroValue136
  t105 := Tryz.underlying193
  a105 := Tryz.isAgg193
  z105 := Tryz.sizeOf193
  v105 := Tryz.zeroValue193
  t116 := Tryz.underlying186
  a116 := Tryz.isAgg186
  z116 := Tryz.sizeOf186
  t117 := Tryz.underlying187
  a117 := Tryz.isAgg187
  z117 := Tryz.sizeOf187
  v117 := Tryz.zeroValue187
  t119 := Tryz.underlying199
  a119 := Tryz.isAgg199
  z119 := Tryz.sizeOf199
  t124 := Tryz.underlying190
  a124 := Tryz.isAgg190
  z124 := Tryz.sizeOf190
  v124 := Tryz.zeroValue190
  t138 := Tryz.underlying201
  a138 := Tryz.isAgg201
  z138 := Tryz.sizeOf201
  v138 := Tryz.zeroValue201
  t139 := Tryz.underlying202
  a139 := Tryz.isAgg202
  z139 := Tryz.sizeOf202
  v139 := Tryz.zeroValue202
  g3 := by kernel_rfl
  g4 := by kernel_rfl }
def Tryz.lays134_ren : Go.Shelf.Ren := ⟨fun | 134 => 129 | 129 => 142 | n => n, fun | 53 => 70 | 3 => 3 | 4 => 4 | 46 => 136 | 5 => 5 | 9 => 9 | n => n, fun | n => n⟩
theorem Tryz.lays134 : Go.Proofs.Lays.n134 Tryz.prog Tryz.lays134_ren := {
  mixed := by kernel_rfl
  f129 := Tryz.func142.trans (congrArg some (by kernel_rfl))
  f134 := Tryz.func129.trans (congrArg some (by kernel_rfl))
  t3 := Tryz.underlying3
  a3 := Tryz.isAgg3
  z3 := Tryz.sizeOf3
  v3 := Tryz.zeroValue3
  t4 := Tryz.underlying4
  a4 := Tryz.isAgg4
  z4 := Tryz.sizeOf4
  v4 := Tryz.zeroValue4
  t5 := Tryz.underlying5
  a5 := Tryz.isAgg5
  z5 := Tryz.sizeOf5
  v5 := Tryz.zeroValue5
  t9 := Tryz.underlying9
  a9 := Tryz.isAgg9
  z9 := Tryz.sizeOf9
  v9 := Tryz.zeroValue9
  t46 := Tryz.underlying136
  a46 := Tryz.isAgg136
  z46 := Tryz.sizeOf136
  v46 := Tryz.zeroValue136
  t53 := Tryz.underlying70
  a53 := Tryz.isAgg70
  z53 := Tryz.sizeOf70
  v53 := Tryz.zeroValue70 }
/-- bits.LeadingZeros64: "LeadingZeros64 returns the number of leading zero bits in x; the result is 64 for x == 0.": IT RETURNS '64 - Lib.bitLen x'; the world is as it was. ITS CALLEE bits.Len64 IS MET BY ITS OWN CONTRACT OFF THE SHELF (lay that first): entered in place it sends the kernel out of memory. (LAID: no walk: one application.) -/
theorem Tryz.bits_LeadingZeros64 (x : Int) (w : World) (h0 : 0 ≤ x) (h1 : x ≤ 18446744073709551615) :
    Calls Tryz.prog 129 #[.int .u64 x] w fun e w' => e = .returned (.int .i64 (64 - (Lib.bitLen x.toNat : Int))) ∧ w' = w := Any.bits_LeadingZeros64 Tryz.lays134 x w h0 h1
def Tryz.lays210_ren : Go.Shelf.Ren := ⟨fun | 210 => 42 | 206 => 67 | n => n, fun | 9 => 9 | 4 => 4 | 3 => 3 | n => n, fun | n => n⟩
def Tryz.lays103_ren : Go.Shelf.Ren := ⟨fun | 103 => 24 | 210 => 42 | 206 => 67 | n => n, fun | 9 => 9 | 4 => 4 | 24 => 66 | 3 => 3 | n => n, fun | n => n⟩
theorem Tryz.lays103 : Go.Proofs.Lays.n103 Tryz.prog Tryz.lays103_ren := {
  mixed := by kernel_rfl
  f103 := Tryz.func24.trans (congrArg some (by kernel_rfl))
  f206 := Tryz.func67.trans (congrArg some (by kernel_rfl))
  f210 := Tryz.func42.trans (congrArg some (by kernel_rfl))
  t3 := Tryz.underlying3
  a3 := Tryz.isAgg3
  z3 := Tryz.sizeOf3
  v3 := Tryz.zeroValue3
  t4 := Tryz.underlying4
  a4 := Tryz.isAgg4
  z4 := Tryz.sizeOf4
  v4 := Tryz.zeroValue4
  t9 := Tryz.underlying9
  a9 := Tryz.isAgg9
  z9 := Tryz.sizeOf9
  v9 := Tryz.zeroValue9
  t24 := Tryz.underlying66
  a24 := Tryz.isAgg66
  z24 := Tryz.sizeOf66
  v24 := Tryz.zeroValue66 }
open Go.RowKit in
/-- strings.CutPrefix: "CutPrefix returns s without the provided leading prefix string and reports whether it found the prefix. If s doesn't start with prefix, CutPrefix returns s, false. If prefix is the empty string, CutPrefix returns s, true.": IT RETURNS '(Lib.trimPrefix s p, Lib.hasPrefix s p)'; the world is as it was. (LAID: no walk: one application.) -/
theorem Tryz.strings_CutPrefix (s p : ByteArray) (w : World) :
    Calls Tryz.prog 24 #[.string s, .string p] w fun e w' => e = .returned (.tuple #[.string ⟨(Lib.trimPrefix s.data.toList p.data.toList).toArray⟩, .bool (Lib.hasPrefix s.data.toList p.data.toList)]) ∧ w' = w := Any.strings_CutPrefix Tryz.lays103 s p w
def Tryz.lays214_ren : Go.Shelf.Ren := ⟨fun | 214 => 131 | n => n, fun | 4 => 4 | 9 => 9 | n => n, fun | n => n⟩
def Tryz.lays121_ren : Go.Shelf.Ren := ⟨fun | 121 => 105 | 214 => 131 | n => n, fun | 4 => 4 | 9 => 9 | n => n, fun | n => n⟩
theorem Tryz.lays121 : Go.Proofs.Lays.n121 Tryz.prog Tryz.lays121_ren := {
  mixed := by kernel_rfl
  f121 := Tryz.func105.trans (congrArg some (by kernel_rfl))
  f214 := Tryz.func131.trans (congrArg some (by kernel_rfl))
  t4 := Tryz.underlying4
  a4 := Tryz.isAgg4
  z4 := Tryz.sizeOf4
  v4 := Tryz.zeroValue4
  t9 := Tryz.underlying9
  a9 := Tryz.isAgg9
  z9 := Tryz.sizeOf9
  v9 := Tryz.zeroValue9 }
open Go.RowKit in
/-- strconv.FormatBool: "FormatBool returns "true" or "false" according to the value of b.": IT RETURNS 'Lib.formatBool b'; the world is as it was. (LAID: no walk: one application.) -/
theorem Tryz.strconv_FormatBool (b : Bool) (w : World) :
    Calls Tryz.prog 105 #[.bool b] w fun e w' => e = .returned (.string ⟨(Lib.formatBool b).toArray⟩) ∧ w' = w := Any.strconv_FormatBool Tryz.lays121 b w
open Go.RowKit in
/-- (*strings.Builder).String: "String returns the accumulated string.": WHATEVER THE BUILDER HOLDS; THE FORM '_k': OVER 'Lib.IsBuilderF' (a builder that 'String()' may have read), AND WITH THE FRAME THAT REACHES ABOVE THE BUILDER: 'Lib.OthersKept': every block that is not b and is no row of uint8's stands as it stood: the iterator of a range among them. (LAID: no walk: one application.) -/
theorem Tryz.Builder_String_any_k (B b : Nat) (l : List UInt8) (w : World) (h : Lib.IsBuilderF 107 5 B b (Lib.byteCells l) w) (hBw : B ≤ w.heap.size) :
    Calls Tryz.prog 52 #[.pointer (some ⟨b, 0, none⟩)] w fun e w' => e = .returned (.string ⟨l.toArray⟩) ∧ (Lib.IsBuilderF 107 5 B b (Lib.byteCells l) w' ∧ Below B w w' ∧ Lib.OthersKept 5 (some b) w w') := Any.Builder_String_any_k Tryz.lays169 Tryz.Builder_Extra_169 B b l w h hBw
def Tryz.lays129_ren : Go.Shelf.Ren := ⟨fun | 129 => 142 | n => n, fun | 53 => 70 | 3 => 3 | 4 => 4 | 46 => 136 | 5 => 5 | 9 => 9 | n => n, fun | n => n⟩
theorem Tryz.lays129 : Go.Proofs.Lays.n129 Tryz.prog Tryz.lays129_ren := {
  mixed := by kernel_rfl
  f129 := Tryz.func142.trans (congrArg some (by kernel_rfl))
  t3 := Tryz.underlying3
  a3 := Tryz.isAgg3
  z3 := Tryz.sizeOf3
  v3 := Tryz.zeroValue3
  t4 := Tryz.underlying4
  a4 := Tryz.isAgg4
  z4 := Tryz.sizeOf4
  v4 := Tryz.zeroValue4
  t5 := Tryz.underlying5
  a5 := Tryz.isAgg5
  z5 := Tryz.sizeOf5
  v5 := Tryz.zeroValue5
  t9 := Tryz.underlying9
  a9 := Tryz.isAgg9
  z9 := Tryz.sizeOf9
  v9 := Tryz.zeroValue9
  t46 := Tryz.underlying136
  a46 := Tryz.isAgg136
  z46 := Tryz.sizeOf136
  v46 := Tryz.zeroValue136
  t53 := Tryz.underlying70
  a53 := Tryz.isAgg70
  z53 := Tryz.sizeOf70
  v53 := Tryz.zeroValue70 }
/-- bits.Len64: "Len64 returns the minimum number of bits required to represent x; the result is 0 for x == 0.": IT RETURNS 'Lib.bitLen x'; the world is as it was. ('h0', 'h1': x is a uint64.) (LAID: no walk: one application.) -/
theorem Tryz.bits_Len64 (x : Int) (w : World) (h0 : 0 ≤ x) (h1 : x ≤ 18446744073709551615) :
    Calls Tryz.prog 142 #[.int .u64 x] w fun e w' => e = .returned (.int .i64 (Lib.bitLen x.toNat)) ∧ w' = w := Any.bits_Len64 Tryz.lays129 x w h0 h1
def Tryz.laysM316_ren : Go.Shelf.Ren := ⟨fun | 316 => 114 | n => n, fun | 9 => 9 | 3 => 3 | 4 => 4 | 37 => 95 | 0 => 0 | 127 => 140 | 5 => 5 | n => n, fun | n => n⟩
theorem Tryz.laysM316 : Go.Proofs.LaysM.n316 Tryz.prog Tryz.laysM316_ren := {
  mixed := by kernel_rfl
  f316 := Tryz.func114.trans (congrArg some (by kernel_rfl))
  t0 := Tryz.underlying0
  a0 := Tryz.isAgg0
  z0 := Tryz.sizeOf0
  v0 := Tryz.zeroValue0
  t3 := Tryz.underlying3
  a3 := Tryz.isAgg3
  z3 := Tryz.sizeOf3
  v3 := Tryz.zeroValue3
  t4 := Tryz.underlying4
  a4 := Tryz.isAgg4
  z4 := Tryz.sizeOf4
  v4 := Tryz.zeroValue4
  t9 := Tryz.underlying9
  a9 := Tryz.isAgg9
  z9 := Tryz.sizeOf9
  v9 := Tryz.zeroValue9
  t37 := Tryz.underlying95
  a37 := Tryz.isAgg95
  z37 := Tryz.sizeOf95
  v37 := Tryz.zeroValue95
  t127 := Tryz.underlying140
  a127 := Tryz.isAgg140
  z127 := Tryz.sizeOf140
  v127 := Tryz.zeroValue140
  t5 := Tryz.underlying5
  a5 := Tryz.isAgg5
  z5 := Tryz.sizeOf5
  v5 := Tryz.zeroValue5
  i0 := by kernel_rfl
  i3 := by kernel_rfl
  i4 := by kernel_rfl
  i5 := by kernel_rfl
  i9 := by kernel_rfl
  i37 := by kernel_rfl
  i127 := by kernel_rfl }
open Go.RowKit in
/-- internal/stringslite.Clone (what strings.Clone calls): "Clone returns a fresh copy of s.": THE SAME BYTES. Of what was there nothing has turned (a new row is laid, and frozen, where s is not empty). (LAID: no walk: one application.) -/
theorem Tryz.stringslite_Clone (s : ByteArray) (w : World) (hlim : s.size ≤ 281474976710656) :
    Calls Tryz.prog 114 #[.string s] w fun e w' => e = .returned (.string s) ∧ Below w.heap.size w w' := Any.stringslite_Clone Tryz.laysM316 s w hlim
def Tryz.lays219_ren : Go.Shelf.Ren := ⟨fun | 219 => 146 | 217 => 150 | 225 => 151 | 224 => 152 | 267 => 153 | 266 => 157 | 314 => 158 | n => n, fun | 9 => 9 | 3 => 3 | 4 => 4 | 5 => 5 | 46 => 136 | 146 => 205 | 51 => 204 | n => n, fun | 1 => 6 | n => n⟩
theorem Tryz.lays219 : Go.Proofs.Lays.n219 Tryz.prog Tryz.lays219_ren := {
  mixed := by kernel_rfl
  f217 := Tryz.func150.trans (congrArg some (by kernel_rfl))
  f219 := Tryz.func146.trans (congrArg some (by kernel_rfl))
  f224 := Tryz.func152.trans (congrArg some (by kernel_rfl))
  f225 := Tryz.func151.trans (congrArg some (by kernel_rfl))
  f266 := Tryz.func157.trans (congrArg some (by kernel_rfl))
  f267 := Tryz.func153.trans (congrArg some (by kernel_rfl))
  f314 := Tryz.func158.trans (congrArg some (by kernel_rfl))
  t3 := Tryz.underlying3
  a3 := Tryz.isAgg3
  z3 := Tryz.sizeOf3
  v3 := Tryz.zeroValue3
  t4 := Tryz.underlying4
  a4 := Tryz.isAgg4
  z4 := Tryz.sizeOf4
  v4 := Tryz.zeroValue4
  t5 := Tryz.underlying5
  a5 := Tryz.isAgg5
  z5 := Tryz.sizeOf5
  v5 := Tryz.zeroValue5
  t9 := Tryz.underlying9
  a9 := Tryz.isAgg9
  z9 := Tryz.sizeOf9
  v9 := Tryz.zeroValue9
  t46 := Tryz.underlying136
  a46 := Tryz.isAgg136
  z46 := Tryz.sizeOf136
  v46 := Tryz.zeroValue136
  t51 := Tryz.underlying204
  a51 := Tryz.isAgg204
  z51 := Tryz.sizeOf204
  v51 := Tryz.zeroValue204
  t146 := Tryz.underlying205
  a146 := Tryz.isAgg205
  z146 := Tryz.sizeOf205
  v146 := Tryz.zeroValue205
  g1 := by kernel_rfl }
open Go.RowKit Go.Lib in
/-- internal/stringslite.Index (what strings.Index calls) AT A substr OF ONE BYTE c: IT RETURNS 'Lib.indexByte s c'; the world is as it was. (LAID: no walk: one application.) -/
theorem Tryz.stringslite_Index_one (s : ByteArray) (c : UInt8) (w : World) :
    Calls Tryz.prog 146 #[.string s, .string ⟨#[c]⟩] w fun e w' => e = .returned (.int .i64 (Lib.indexByte s.data.toList c)) ∧ w' = w := Any.stringslite_Index_one Tryz.lays219 s c w
def Tryz.lays99_ren : Go.Shelf.Ren := ⟨fun | 99 => 116 | 206 => 67 | n => n, fun | 9 => 9 | 4 => 4 | 3 => 3 | n => n, fun | n => n⟩
theorem Tryz.lays99 : Go.Proofs.Lays.n99 Tryz.prog Tryz.lays99_ren := {
  mixed := by kernel_rfl
  f99 := Tryz.func116.trans (congrArg some (by kernel_rfl))
  f206 := Tryz.func67.trans (congrArg some (by kernel_rfl))
  t3 := Tryz.underlying3
  a3 := Tryz.isAgg3
  z3 := Tryz.sizeOf3
  v3 := Tryz.zeroValue3
  t4 := Tryz.underlying4
  a4 := Tryz.isAgg4
  z4 := Tryz.sizeOf4
  v4 := Tryz.zeroValue4
  t9 := Tryz.underlying9
  a9 := Tryz.isAgg9
  z9 := Tryz.sizeOf9
  v9 := Tryz.zeroValue9 }
open Go.RowKit Go.Lib in
/-- strings.HasPrefix: "HasPrefix reports whether the string s begins with prefix.": IT RETURNS 'Lib.hasPrefix s prefix'; the world is as it was. (LAID: no walk: one application.) -/
theorem Tryz.strings_HasPrefix (s p : ByteArray) (w : World) :
    Calls Tryz.prog 116 #[.string s, .string p] w fun e w' => e = .returned (.bool (Lib.hasPrefix s.data.toList p.data.toList)) ∧ w' = w := Any.strings_HasPrefix Tryz.lays99 s p w
def Tryz.lays264_ren : Go.Shelf.Ren := ⟨fun | 264 => 43 | n => n, fun | 53 => 70 | 46 => 136 | n => n, fun | n => n⟩
theorem Tryz.lays264 : Go.Proofs.Lays.n264 Tryz.prog Tryz.lays264_ren := {
  mixed := by kernel_rfl
  f264 := Tryz.func43.trans (congrArg some (by kernel_rfl))
  t46 := Tryz.underlying136
  a46 := Tryz.isAgg136
  z46 := Tryz.sizeOf136
  v46 := Tryz.zeroValue136
  t53 := Tryz.underlying70
  a53 := Tryz.isAgg70
  z53 := Tryz.sizeOf70
  v53 := Tryz.zeroValue70 }
open Go.RowKit Go.Lib in
theorem Tryz.bits_Mul64 (x y : Nat) (hx : x < 18446744073709551616) (hy : y < 18446744073709551616) (w : World) :
    Calls Tryz.prog 43 #[.int .u64 x, .int .u64 y] w fun e w' => e = .returned (.tuple #[.int .u64 ((x * y / 18446744073709551616 : Nat) : Int), .int .u64 ((x * y % 18446744073709551616 : Nat) : Int)]) ∧ w' = w := Any.bits_Mul64 Tryz.lays264 x y hx hy w
end Go.Proofs
