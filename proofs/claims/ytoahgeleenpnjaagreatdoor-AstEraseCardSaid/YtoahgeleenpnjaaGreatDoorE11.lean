/- Expressions in memory: eight cells each, their kids in rows. -/
import Derived.Test.YtoahgeleenpnjaaGreatDoorE5
import Derived.Test.YtoahgeleenpnjaaGreatDoorE9
import Derived.Test.YtoahgeleenpnjaaGreatDoorE10
import Derived.ProofKit
import Derived.OpenShut
import Derived.ChangeSlices
import Derived.ChangeMaps5
import Derived.Carry
import Derived.Lay
import Derived.LaidMore
import Derived.Stop.Joined
import Derived.SevenTiedAt
import Derived.Lib.LaidTab
import Derived.Test.YtoahgeleenpnjaaGreatDoorTie
import Derived.Test.YtoahgeleenpnjaaGreatDoorCards
import Derived.Test.YtoahgeleenpnjaaGreatDoorE2
import Derived.Deep.LoopGhost
set_option linter.unusedVariables false
set_option linter.unusedSimpArgs false
namespace Go.Proofs.YtoahgeleenpnjaaGreatDoor
open Go.RowKit

/-- The number of an expression: of a Lit what its digits tell, else none. -/
def NumAt (F : Nat → Prop) (w : World) (op : Nat) (nu : List UInt8) (s : Bool) (p : Option Addr) (n c : Nat) : Prop :=
  if op = 1 then Zd.IsInt w (.agg #[.bool s, .slice p n c]) (Zd.parseV nu) ∧ Zd.parseE nu = 0 ∧ (0 < n → ∃ a, p = some a ∧ F a.block) else s = false ∧ p = none ∧ n = 0 ∧ c = 0
mutual
/-- Eight cells read as an expression; all its memory lies in F. -/
def EAt (F : Nat → Prop) (w : World) : Ex → List Value → Prop
  | .mk op nm md nu ys ks ps, q => ∃ s pw nw cw pk ck rows, q = [.int .i64 (op : Int), strV nm, strV md, .bool s, .slice pw nw cw, .bool ys, .slice pk ks.length ck, .int .i64 (ps : Int)] ∧ NumAt F w op nu s pw nw cw ∧ GAt 8 w pk rows ∧ LsE F w ks rows ∧ (ks ≠ [] → ∃ a, pk = some a ∧ F a.block)
def LsE (F : Nat → Prop) (w : World) : List Ex → List (List Value) → Prop
  | [], r => r = []
  | x :: l, r => ∃ q r', r = q :: r' ∧ EAt F w x q ∧ LsE F w l r'
end

theorem int_same {S : Nat → Prop} {w w' : World} {s : Bool} {p : Option Addr} {n c : Nat} {Z : Int} (h : Zd.IsInt w (.agg #[.bool s, .slice p n c]) Z) (hg : Fr2 S w w') (hS : 0 < n → ∀ a, p = some a → ¬ S a.block) : Zd.IsInt w' (.agg #[.bool s, .slice p n c]) Z := by
  obtain ⟨s', v, N, he, ⟨p', n', c', f, rfl, h1, h2, h3, h4⟩, r⟩ := h
  simp only [Value.agg.injEq, Array.mk.injEq, List.cons.injEq, Value.bool.injEq, Value.slice.injEq, and_true] at he
  obtain ⟨rfl, rfl, rfl, rfl⟩ := he
  refine ⟨s, _, N, rfl, ⟨p, n, c, f, rfl, h1, h2, ?_, h4⟩, r⟩
  rcases Nat.eq_zero_or_pos n with h0 | h0
  · exact .inl h0
  · obtain ⟨g, off, rfl, hl, hc⟩ := Or.resolve_left h3 (by omega)
    exact .inr ⟨g, off, rfl, Nat.lt_of_lt_of_le hl hg.size, fun j hj => by rw [World.cell?_of_block (w := w) (hg.block g hl (hS h0 _ rfl))]; exact hc j hj⟩
theorem NumAt.same {F S : Nat → Prop} {w w' : World} {op : Nat} {nu : List UInt8} {s : Bool} {p : Option Addr} {n c : Nat} (h : NumAt F w op nu s p n c) (hg : Fr2 S w w') (hS : ∀ k, F k → ¬ S k) : NumAt F w' op nu s p n c := by
  unfold NumAt at h ⊢
  split
  · rename_i ho
    rw [if_pos ho] at h
    exact ⟨int_same h.1 hg (fun h0 a ha => by obtain ⟨b, hb, hF⟩ := h.2.2 h0; rw [ha] at hb; injection hb with hb; subst hb; exact hS _ hF), h.2⟩
  · rename_i ho
    rw [if_neg ho] at h; exact h
theorem NumAt.mono {F F' : Nat → Prop} {w : World} {op : Nat} {nu : List UInt8} {s : Bool} {p : Option Addr} {n c : Nat} (h : NumAt F w op nu s p n c) (hF : ∀ k, F k → F' k) : NumAt F' w op nu s p n c := by
  unfold NumAt at h ⊢
  split
  · rename_i ho
    rw [if_pos ho] at h
    exact ⟨h.1, h.2.1, fun h0 => by obtain ⟨a, ha, h1⟩ := h.2.2 h0; exact ⟨a, ha, hF _ h1⟩⟩
  · rename_i ho
    rw [if_neg ho] at h; exact h

theorem Ls_len {F : Nat → Prop} {w : World} : ∀ {l : List Ex} {r : List (List Value)}, LsE F w l r → r.length = l.length
  | [], r, h => by simp only [LsE] at h; rw [h]; rfl
  | x :: l, r, h => by
    simp only [LsE] at h
    obtain ⟨q, r', rfl, -, h2⟩ := h
    rw [List.length_cons, Ls_len h2]; rfl
theorem Ls_get {F : Nat → Prop} {w : World} : ∀ {l : List Ex} {r : List (List Value)} {j : Nat} {x : Ex}, LsE F w l r → l[j]? = some x → ∃ q, r[j]? = some q ∧ EAt F w x q
  | [], r, j, x, h, hx => by simp at hx
  | y :: l, r, j, x, h, hx => by
    simp only [LsE] at h
    obtain ⟨q, r', rfl, h1, h2⟩ := h
    match j, hx with
    | 0, hx => simp at hx; subst hx; exact ⟨q, rfl, h1⟩
    | j + 1, hx =>
      obtain ⟨q', hq, hr⟩ := Ls_get h2 (j := j) (by simpa using hx)
      exact ⟨q', by simpa using hq, hr⟩
theorem Ls_snoc {F : Nat → Prop} {w : World} {x : Ex} {q : List Value} (hx : EAt F w x q) : ∀ {l : List Ex} {r : List (List Value)}, LsE F w l r → LsE F w (l ++ [x]) (r ++ [q])
  | [], r, h => by simp only [LsE] at h; subst h; simp only [List.nil_append, LsE]; exact ⟨q, [], rfl, hx, rfl⟩
  | y :: l, r, h => by
    simp only [LsE] at h
    obtain ⟨q', r', rfl, h1, h2⟩ := h
    simp only [List.cons_append, LsE]
    exact ⟨q', _, rfl, h1, Ls_snoc hx h2⟩
theorem gat_same {S F : Nat → Prop} {w w' : World} {p : Option Addr} {rows : List (List Value)} {n : Nat} (hr : rows.length = n) (h : GAt 8 w p rows) (hF : 0 < n → ∃ a, p = some a ∧ F a.block) (hg : Fr2 S w w') (hS : ∀ k, F k → ¬ S k) : GAt 8 w' p rows :=
  h.keptS hg (fun h0 a ha => by
    obtain ⟨b, hb, h1⟩ := hF (by have := List.length_pos_iff.2 h0; omega)
    rw [ha] at hb; injection hb with hb; subst hb; exact hS _ h1)
mutual
theorem EAt.same {F S : Nat → Prop} {w w' : World} (hg : Fr2 S w w') (hS : ∀ k, F k → ¬ S k) : ∀ {x : Ex} {q : List Value}, EAt F w x q → EAt F w' x q
  | .mk op nm md nu ys ks ps, q, h => by
    simp only [EAt] at h ⊢
    obtain ⟨s, pw, nw, cw, pk, ck, rows, h1, h2, h3, h4, h5⟩ := h
    exact ⟨s, pw, nw, cw, pk, ck, rows, h1, h2.same hg hS, gat_same (Ls_len h4) h3 (fun h0 => h5 (List.length_pos_iff.1 h0)) hg hS, LsE.same hg hS h4, h5⟩
theorem LsE.same {F S : Nat → Prop} {w w' : World} (hg : Fr2 S w w') (hS : ∀ k, F k → ¬ S k) : ∀ {l : List Ex} {r : List (List Value)}, LsE F w l r → LsE F w' l r
  | [], r, h => by simp only [LsE] at h ⊢; exact h
  | x :: l, r, h => by
    simp only [LsE] at h ⊢
    obtain ⟨q, r', h1, h2, h3⟩ := h
    exact ⟨q, r', h1, EAt.same hg hS h2, LsE.same hg hS h3⟩
end
mutual
theorem EAt.mono {F F' : Nat → Prop} {w : World} (hF : ∀ k, F k → F' k) : ∀ {x : Ex} {q : List Value}, EAt F w x q → EAt F' w x q
  | .mk op nm md nu ys ks ps, q, h => by
    simp only [EAt] at h ⊢
    obtain ⟨s, pw, nw, cw, pk, ck, rows, h1, h2, h3, h4, h5⟩ := h
    exact ⟨s, pw, nw, cw, pk, ck, rows, h1, h2.mono hF, h3, LsE.mono hF h4, fun h0 => by obtain ⟨a, ha, h6⟩ := h5 h0; exact ⟨a, ha, hF _ h6⟩⟩
theorem LsE.mono {F F' : Nat → Prop} {w : World} (hF : ∀ k, F k → F' k) : ∀ {l : List Ex} {r : List (List Value)}, LsE F w l r → LsE F' w l r
  | [], r, h => by simp only [LsE] at h ⊢; exact h
  | x :: l, r, h => by
    simp only [LsE] at h ⊢
    obtain ⟨q, r', h1, h2, h3⟩ := h
    exact ⟨q, r', h1, EAt.mono hF h2, LsE.mono hF h3⟩
end
theorem EAt.kept {F : Nat → Prop} {w w' : World} {x : Ex} {q : List Value} (h : EAt F w x q) (hg : w.grownBy w' none) : EAt F w' x q := EAt.same (S := fun _ => False) (Fr2.none hg) (fun _ _ h => h) h
theorem LsE.kept {F : Nat → Prop} {w w' : World} {l : List Ex} {r : List (List Value)} (h : LsE F w l r) (hg : w.grownBy w' none) : LsE F w' l r := LsE.same (S := fun _ => False) (Fr2.none hg) (fun _ _ h => h) h

/-- What is answered where an expression is. -/
def ExPost (x : Ex) (w : World) (e : Ending) (w' : World) : Prop := w.grownBy w' none ∧ ∃ q, e = .returned (.agg q.toArray) ∧ EAt (fun k => w.heap.size ≤ k) w' x q

/-! ### Numbers' digits -/

theorem dig_nat {b : UInt8} (h : isDig b = true) : 48 ≤ b.toNat ∧ b.toNat ≤ 57 := by
  unfold isDig at h
  rw [Bool.and_eq_true] at h
  exact ⟨UInt8.le_iff_toNat_le.1 (of_decide_eq_true h.1), UInt8.le_iff_toNat_le.1 (of_decide_eq_true h.2)⟩
theorem num_parse {t : List UInt8} (h : numOk t) : Zd.parseE t = 0 ∧ Zd.txtL (Zd.parseV t) = t := by
  obtain ⟨h0, h60, hd, hz⟩ := h
  have hm : Zd.minus t = false ∧ Zd.digs t = t := Zd.mdne h0 (by have := dig_nat (hd _ (List.getElem_mem h0)); omega)
  have hp : Zd.plain t = true := by
    unfold Zd.plain
    rw [Bool.and_eq_true, List.all_eq_true]
    refine ⟨fun b hb => decide_eq_true (dig_nat (hd b hb)), ?_⟩
    rw [Bool.or_eq_true, Bool.and_eq_true]
    by_cases h1 : 1 < t.length
    · exact .inr ⟨decide_eq_true (List.length_pos_iff.1 h0), decide_eq_true (hz h1)⟩
    · obtain ⟨a, rfl⟩ : ∃ a, t = [a] := List.length_eq_one_iff.1 (by omega)
      by_cases ha : a = 48
      · subst ha; exact .inl rfl
      · exact .inr ⟨rfl, decide_eq_true (by simpa using ha)⟩
  have he : Zd.parseE t = 0 := by
    unfold Zd.parseE
    rw [hm.1, hm.2, if_neg (by omega), if_neg (by rw [hp]; simp)]
  exact ⟨he, Zd.txtL_parse he⟩

/-! ### Trees in a row of nodes -/

def TrAt (N : List Nd) (k : Int) (t : Tr) : Prop := ∃ b : Nat, k = ((b + szR t - 1 : Nat) : Int) ∧ PartAt N b (post b t)
def KT (N : List Nd) (n : Nat) (ks : List Int) (l : List Tr) : Prop := ks.length = l.length ∧ ∀ (j : Nat) (t : Tr), l[j]? = some t → ∃ k : Nat, ks[j]? = some (k : Int) ∧ TrAt N k t ∧ k < n
theorem TrAt.lf {N : List Nd} {k : Int} {i : Nat} (h : TrAt N k (.lf i)) : ∃ n : Nat, k = (n : Int) ∧ N[n]? = some ⟨19, (i : Int), []⟩ := by
  obtain ⟨b, rfl, h⟩ := h
  have := h 0 ⟨19, (i : Int), []⟩ (by simp [post])
  exact ⟨b, by simp only [szR]; omega, by simpa using this⟩
theorem kt_posts {N : List Nd} : ∀ (l : List Tr) (b n : Nat), b + szRs l ≤ n → PartAt N b (posts b l) → KT N n (idxs b l) l
  | [], b, n, _, _ => ⟨by simp [idxs], fun j t ht => by simp at ht⟩
  | t :: l, b, n, hn, h => by
    simp only [posts] at h
    simp only [szRs] at hn
    have h2 := h.right
    rw [post_len] at h2
    have ih := kt_posts l (b + szR t) n (by omega) h2
    have hp := szR_pos t
    refine ⟨by simp only [idxs, List.length_cons]; rw [ih.1], fun j u hu => ?_⟩
    match j, hu with
    | 0, hu =>
      simp at hu; subst hu
      exact ⟨b + szR t - 1, by simp [idxs], ⟨b, rfl, h.left⟩, by omega⟩
    | j + 1, hu =>
      obtain ⟨k, hk, hr⟩ := ih.2 j u (by simpa using hu)
      exact ⟨k, by simpa [idxs] using hk, hr⟩
theorem TrAt.nd {N : List Nd} {k : Int} {m : Nat} {l : List Tr} (h : TrAt N k (.nd m l)) : ∃ (n : Nat) (ks : List Int), k = (n : Int) ∧ N[n]? = some ⟨(m : Int), -1, ks⟩ ∧ KT N n ks l := by
  obtain ⟨b, rfl, h⟩ := h
  simp only [post] at h
  have h1 := h.right 0 ⟨(m : Int), -1, idxs b l⟩ (by simp)
  rw [posts_len] at h1
  refine ⟨b + szRs l, idxs b l, by simp only [szR]; omega, by simpa using h1, kt_posts l b _ (Nat.le_refl _) h.left⟩
theorem TrAt.root (t : Tr) : TrAt (post 0 t) ((szR t - 1 : Nat) : Int) t := ⟨0, by rw [Nat.zero_add], part_self _⟩
end Go.Proofs.YtoahgeleenpnjaaGreatDoor
namespace Go.Proofs.YtoahgeleenpnjaaGreatDoor
open Go.RowKit

theorem put4c {W : World} {B : Nat} {T : TypeId} {x0 x1 x2 x3 : Value} (h0 : W.heap[B]? = some (.cells #[x0, x1, x2, x3] T (0, 0))) (a b c d : Value) : ((((W.setCell ⟨B, 0, none⟩ a).setCell ⟨B, 1, none⟩ b).setCell ⟨B, 2, none⟩ c).setCell ⟨B, 3, none⟩ d).heap[B]? = some (.cells #[a, b, c, d] T (0, 0)) ∧ Fr2 (Self B) W ((((W.setCell ⟨B, 0, none⟩ a).setCell ⟨B, 1, none⟩ b).setCell ⟨B, 2, none⟩ c).setCell ⟨B, 3, none⟩ d) := by
  have h1 : (W.setCell ⟨B, 0, none⟩ a).heap[B]? = some (.cells #[a, x1, x2, x3] T (0, 0)) := set_cells (i := 0) (u := a) h0
  have h2 : ((W.setCell ⟨B, 0, none⟩ a).setCell ⟨B, 1, none⟩ b).heap[B]? = some (.cells #[a, b, x2, x3] T (0, 0)) := set_cells (i := 1) (u := b) h1
  have h3 : (((W.setCell ⟨B, 0, none⟩ a).setCell ⟨B, 1, none⟩ b).setCell ⟨B, 2, none⟩ c).heap[B]? = some (.cells #[a, b, c, x3] T (0, 0)) := set_cells (i := 2) (u := c) h2
  have h4 : ((((W.setCell ⟨B, 0, none⟩ a).setCell ⟨B, 1, none⟩ b).setCell ⟨B, 2, none⟩ c).setCell ⟨B, 3, none⟩ d).heap[B]? = some (.cells #[a, b, c, d] T (0, 0)) := set_cells (i := 3) (u := d) h3
  exact ⟨h4, (Fr2.setCell (Fr2.setCell (Fr2.setCell (Fr2.setCell (Fr2.refl (Self B) W) (g := B) (j := 0) (mine B) a) (g := B) (j := 1) (mine B) b) (g := B) (j := 2) (mine B) c) (g := B) (j := 3) (mine B) d)⟩
theorem put8c {W : World} {B : Nat} {T : TypeId} {x0 x1 x2 x3 x4 x5 x6 x7 : Value} (h0 : W.heap[B]? = some (.cells #[x0, x1, x2, x3, x4, x5, x6, x7] T (0, 0))) (a b c d e f g h : Value) : ((((((((W.setCell ⟨B, 0, none⟩ a).setCell ⟨B, 1, none⟩ b).setCell ⟨B, 2, none⟩ c).setCell ⟨B, 3, none⟩ d).setCell ⟨B, 4, none⟩ e).setCell ⟨B, 5, none⟩ f).setCell ⟨B, 6, none⟩ g).setCell ⟨B, 7, none⟩ h).heap[B]? = some (.cells #[a, b, c, d, e, f, g, h] T (0, 0)) ∧ Fr2 (Self B) W ((((((((W.setCell ⟨B, 0, none⟩ a).setCell ⟨B, 1, none⟩ b).setCell ⟨B, 2, none⟩ c).setCell ⟨B, 3, none⟩ d).setCell ⟨B, 4, none⟩ e).setCell ⟨B, 5, none⟩ f).setCell ⟨B, 6, none⟩ g).setCell ⟨B, 7, none⟩ h) := by
  have h1 : (W.setCell ⟨B, 0, none⟩ a).heap[B]? = some (.cells #[a, x1, x2, x3, x4, x5, x6, x7] T (0, 0)) := set_cells (i := 0) (u := a) h0
  have h2 : ((W.setCell ⟨B, 0, none⟩ a).setCell ⟨B, 1, none⟩ b).heap[B]? = some (.cells #[a, b, x2, x3, x4, x5, x6, x7] T (0, 0)) := set_cells (i := 1) (u := b) h1
  have h3 : (((W.setCell ⟨B, 0, none⟩ a).setCell ⟨B, 1, none⟩ b).setCell ⟨B, 2, none⟩ c).heap[B]? = some (.cells #[a, b, c, x3, x4, x5, x6, x7] T (0, 0)) := set_cells (i := 2) (u := c) h2
  have h4 : ((((W.setCell ⟨B, 0, none⟩ a).setCell ⟨B, 1, none⟩ b).setCell ⟨B, 2, none⟩ c).setCell ⟨B, 3, none⟩ d).heap[B]? = some (.cells #[a, b, c, d, x4, x5, x6, x7] T (0, 0)) := set_cells (i := 3) (u := d) h3
  have h5 : (((((W.setCell ⟨B, 0, none⟩ a).setCell ⟨B, 1, none⟩ b).setCell ⟨B, 2, none⟩ c).setCell ⟨B, 3, none⟩ d).setCell ⟨B, 4, none⟩ e).heap[B]? = some (.cells #[a, b, c, d, e, x5, x6, x7] T (0, 0)) := set_cells (i := 4) (u := e) h4
  have h6 : ((((((W.setCell ⟨B, 0, none⟩ a).setCell ⟨B, 1, none⟩ b).setCell ⟨B, 2, none⟩ c).setCell ⟨B, 3, none⟩ d).setCell ⟨B, 4, none⟩ e).setCell ⟨B, 5, none⟩ f).heap[B]? = some (.cells #[a, b, c, d, e, f, x6, x7] T (0, 0)) := set_cells (i := 5) (u := f) h5
  have h7 : (((((((W.setCell ⟨B, 0, none⟩ a).setCell ⟨B, 1, none⟩ b).setCell ⟨B, 2, none⟩ c).setCell ⟨B, 3, none⟩ d).setCell ⟨B, 4, none⟩ e).setCell ⟨B, 5, none⟩ f).setCell ⟨B, 6, none⟩ g).heap[B]? = some (.cells #[a, b, c, d, e, f, g, x7] T (0, 0)) := set_cells (i := 6) (u := g) h6
  have h8 : ((((((((W.setCell ⟨B, 0, none⟩ a).setCell ⟨B, 1, none⟩ b).setCell ⟨B, 2, none⟩ c).setCell ⟨B, 3, none⟩ d).setCell ⟨B, 4, none⟩ e).setCell ⟨B, 5, none⟩ f).setCell ⟨B, 6, none⟩ g).setCell ⟨B, 7, none⟩ h).heap[B]? = some (.cells #[a, b, c, d, e, f, g, h] T (0, 0)) := set_cells (i := 7) (u := h) h7
  exact ⟨h8, (Fr2.setCell (Fr2.setCell (Fr2.setCell (Fr2.setCell (Fr2.setCell (Fr2.setCell (Fr2.setCell (Fr2.setCell (Fr2.refl (Self B) W) (g := B) (j := 0) (mine B) a) (g := B) (j := 1) (mine B) b) (g := B) (j := 2) (mine B) c) (g := B) (j := 3) (mine B) d) (g := B) (j := 4) (mine B) e) (g := B) (j := 5) (mine B) f) (g := B) (j := 6) (mine B) g) (g := B) (j := 7) (mine B) h)⟩
theorem cells8x {w : World} {r : Nat} {a b c d e f g h : Value} {T : TypeId} (h0 : w.heap[r]? = some (.cells #[a, b, c, d, e, f, g, h] T (0, 0))) : w.cell? ⟨r, 0, none⟩ = some a ∧ w.cell? ⟨r, 1, none⟩ = some b ∧ w.cell? ⟨r, 2, none⟩ = some c ∧ w.cell? ⟨r, 3, none⟩ = some d ∧ w.cell? ⟨r, 4, none⟩ = some e ∧ w.cell? ⟨r, 5, none⟩ = some f ∧ w.cell? ⟨r, 6, none⟩ = some g ∧ w.cell? ⟨r, 7, none⟩ = some h ∧ ∀ o, w.frozen? ⟨r, o, none⟩ = false :=
  ⟨by rw [cell_of_row w r 0 _ T (0, 0) h0]; rfl, by rw [cell_of_row w r 1 _ T (0, 0) h0]; rfl, by rw [cell_of_row w r 2 _ T (0, 0) h0]; rfl, by rw [cell_of_row w r 3 _ T (0, 0) h0]; rfl, by rw [cell_of_row w r 4 _ T (0, 0) h0]; rfl, by rw [cell_of_row w r 5 _ T (0, 0) h0]; rfl, by rw [cell_of_row w r 6 _ T (0, 0) h0]; rfl, by rw [cell_of_row w r 7 _ T (0, 0) h0]; rfl, fun o => by simp [World.frozen?, h0]⟩

set_option maxRecDepth 100000 in
set_option maxHeartbeats 4000000 in
theorem kind_r {N : List Nd} {K : Kf} (hN : N.length ≤ 150000) {n : Nat} {x : Nd} (hx : N[n]? = some x) (pt pn : Option Addr) (mt ct cn : Nat) (w : World) (h : NodesAt w pn N K) :
    Calls Tryz.prog 56 #[.agg #[.slice pt mt ct, .slice pn N.length cn], .int .i64 (n : Int)] w (ValPost (.int .i64 x.kind) w) := by
  obtain ⟨g, off, rfl, hgl, c0, c1, c2⟩ := node_at h hx
  have hn := (List.getElem?_eq_some_iff.1 hx).1
  obtain ⟨M, hM⟩ : ∃ M, N.length = M := ⟨_, rfl⟩
  rw [hM] at hN hn ⊢
  have x1 : (0 : Int) ≤ (n : Int) := by omega
  have x2 : (n : Int) < (M : Int) := by omega
  have x3 : decide (n < M) = true := decide_eq_true hn
  have x4 : decide ((n : Int) < (M : Int)) = true := decide_eq_true x2
  clear h hx hM
  go_enter Tryz.func56, Tryz.ntmps56
  go_wp2_with fail
  go_ret
  exact ⟨rfl, World.grownBy_alloc w _ none⟩

set_option maxRecDepth 100000 in
set_option maxHeartbeats 4000000 in
theorem kids_r {N : List Nd} {K : Kf} (hN : N.length ≤ 150000) {n : Nat} {x : Nd} (hx : N[n]? = some x) (pt pn : Option Addr) (mt ct cn : Nat) (w : World) (h : NodesAt w pn N K) :
    Calls Tryz.prog 39 #[.agg #[.slice pt mt ct, .slice pn N.length cn], .int .i64 (n : Int)] w (ValPost (.slice (K n).1 x.kids.length (K n).2) w) := by
  obtain ⟨g, off, rfl, hgl, c0, c1, c2⟩ := node_at h hx
  have hn := (List.getElem?_eq_some_iff.1 hx).1
  obtain ⟨M, hM⟩ : ∃ M, N.length = M := ⟨_, rfl⟩
  rw [hM] at hN hn ⊢
  have x1 : (0 : Int) ≤ (n : Int) := by omega
  have x2 : (n : Int) < (M : Int) := by omega
  have x3 : decide (n < M) = true := decide_eq_true hn
  have x4 : decide ((n : Int) < (M : Int)) = true := decide_eq_true x2
  generalize (K n).1 = pk at *
  generalize (K n).2 = ck at *
  clear h hx hM
  go_enter Tryz.func39, Tryz.ntmps39
  go_wp2_with fail
  go_ret
  exact ⟨rfl, World.grownBy_alloc w _ none⟩

/-- The four cells of a token in a slice. -/
theorem tok_cells {w : World} {p : Option Addr} {T : List Tok} (h : TAt w p T) {i : Nat} (hi : i < T.length) : ∃ g off, p = some ⟨g, off, none⟩ ∧ g < w.heap.size ∧ w.cell? ⟨g, off + i * 4, none⟩ = some (.int .i64 ((tkT T i).kind : Int)) ∧ w.cell? ⟨g, off + i * 4 + 1, none⟩ = some (strV (tkT T i).lead) ∧ w.cell? ⟨g, off + i * 4 + 2, none⟩ = some (strV (tkT T i).text) ∧ w.cell? ⟨g, off + i * 4 + 3, none⟩ = some (.int .i64 ((tkT T i).pos : Int)) := by
  have ht : T[i]? = some (tkT T i) := by unfold tkT; rw [List.getElem?_eq_getElem hi]; rfl
  obtain ⟨g, off, rfl, hl, hc⟩ := h.resolve_left (fun e => by rw [e] at hi; simp at hi)
  exact ⟨g, off, rfl, hl, hc i _ ht⟩
def tokVal (t : Tok) : Value := .agg #[.int .i64 (t.kind : Int), strV t.lead, strV t.text, .int .i64 (t.pos : Int)]

set_option maxRecDepth 100000 in
set_option maxHeartbeats 8000000 in
theorem token_r {T : List Tok} {N : List Nd} {K : Kf} (hT : T.length ≤ 150000) (hN : N.length ≤ 150000) {n i : Nat} (hx : N[n]? = some ⟨19, (i : Int), []⟩) (hi : i < T.length) (pt pn : Option Addr) (ct cn : Nat) (w : World) (ht : TAt w pt T) (h : NodesAt w pn N K) :
    Calls Tryz.prog 92 #[.agg #[.slice pt T.length ct, .slice pn N.length cn], .int .i64 (n : Int)] w (ValPost (tokVal (tkT T i)) w) := by
  obtain ⟨g, off, rfl, hgl, c0, c1, c2⟩ := node_at h hx
  obtain ⟨g2, off2, rfl, hgl2, t0, t1, t2, t3⟩ := tok_cells ht hi
  have hn := (List.getElem?_eq_some_iff.1 hx).1
  obtain ⟨M, hM⟩ : ∃ M, N.length = M := ⟨_, rfl⟩
  obtain ⟨m, hm⟩ : ∃ m, T.length = m := ⟨_, rfl⟩
  rw [hM] at hN hn ⊢
  rw [hm] at hT hi ⊢
  have x1 : (0 : Int) ≤ (n : Int) := by omega
  have x2 : (n : Int) < (M : Int) := by omega
  have x3 : decide (n < M) = true := decide_eq_true hn
  have x4 : decide ((n : Int) < (M : Int)) = true := decide_eq_true x2
  have y1 : (0 : Int) ≤ (i : Int) := by omega
  have y2 : (i : Int) < (m : Int) := by omega
  have y3 : decide (i < m) = true := decide_eq_true hi
  have y4 : decide ((i : Int) < (m : Int)) = true := decide_eq_true y2
  unfold tokVal
  unfold strV at t1 t2 ⊢
  generalize (⟨(tkT T i).lead.toArray⟩ : ByteArray) = le at *
  generalize (⟨(tkT T i).text.toArray⟩ : ByteArray) = te at *
  generalize (tkT T i).kind = k at *
  generalize (tkT T i).pos = p at *
  clear h hx hM ht hm c0 c2
  go_enter Tryz.func92, Tryz.ntmps92
  go_wp2_with fail
  have hA := heap_alloc_new w (.cells #[.slice (some ⟨g2, off2, none⟩) m ct, .slice (some ⟨g, off, none⟩) M cn] 83)
  have hgA := World.grownBy_alloc w (.cells #[.slice (some ⟨g2, off2, none⟩) m ct, .slice (some ⟨g, off, none⟩) M cn] 83) none
  have hsA : (w.alloc (.cells #[.slice (some ⟨g2, off2, none⟩) m ct, .slice (some ⟨g, off, none⟩) M cn] 83)).heap.size = w.heap.size + 1 := by simp
  generalize (w.alloc (.cells #[.slice (some ⟨g2, off2, none⟩) m ct, .slice (some ⟨g, off, none⟩) M cn] 83)) = W1 at *
  have hB := heap_alloc_new W1 (.cells #[.int .i64 0, .string ⟨#[]⟩, .string ⟨#[]⟩, .int .i64 0] 92)
  have hgB := World.grownBy_alloc W1 (.cells #[.int .i64 0, .string ⟨#[]⟩, .string ⟨#[]⟩, .int .i64 0] 92) none
  rw [hsA] at hB
  generalize (W1.alloc (.cells #[.int .i64 0, .string ⟨#[]⟩, .string ⟨#[]⟩, .int .i64 0] 92)) = W at *
  obtain ⟨b, hb⟩ : ∃ b, w.heap.size = b := ⟨_, rfl⟩
  have HBW := Lib.hid hb
  rw [hb] at hA hB ⊢
  obtain ⟨b1, hb1⟩ : ∃ x, b + 1 = x := ⟨_, rfl⟩
  rw [hb1] at hB ⊢
  have hlt : b < b1 := by omega
  have hA2 := bx hgB hA
  obtain ⟨a0, a1, a2⟩ := cells2 hA2
  have HG0 := Lib.hid (gb_trans hgA hgB)
  have c1 := HG0.out.cell c1 (by simp)
  have t0 := HG0.out.cell t0 (by simp)
  have t1 := HG0.out.cell t1 (by simp)
  have t2 := HG0.out.cell t2 (by simp)
  have t3 := HG0.out.cell t3 (by simp)
  have HB := Lib.hid hB
  obtain ⟨r0, r1, r2, r3, r4⟩ := cells4' hB
  clear hA hA2 hB hgA hgB hsA hb hb1
  go_region
  all_goals
    obtain ⟨hb5, hf5⟩ := put4c HB.out (.int .i64 (k : Int)) (.string le) (.string te) (.int .i64 (p : Int))
    have HF5 := Lib.hid hf5
    obtain ⟨k0, k1, k2, k3, -⟩ := cells4' hb5
    clear a0 a1 a2 r0 r1 r2 r3 r4 c1 t0 t1 t2 t3 HB hb5 hf5
    generalize ((((W.setCell ⟨b1, 0, none⟩ (.int .i64 (k : Int))).setCell ⟨b1, 1, none⟩ (.string le)).setCell ⟨b1, 2, none⟩ (.string te)).setCell ⟨b1, 3, none⟩ (.int .i64 (p : Int))) = W5 at *
    go_wp2_with fail
    refine bodyPost_ret (v := .agg #[.int .i64 (k : Int), .string le, .string te, .int .i64 (p : Int)]) (by simp [results, Tryz.results92, go_sem, k0, k1, k2, k3]) rfl ⟨rfl, Fr2.after HG0.out (fr2_drew HF5.out) (fun j hj => by have e : j = b1 := hj; rw [HBW.out]; omega)⟩

set_option maxRecDepth 100000 in
set_option maxHeartbeats 4000000 in
theorem unary_c (x : ByteArray) (w : World) : Calls Tryz.prog 99 #[.string x] w (ValPost (.int .i64 (unE x.data.toList : Nat)) w) := by
  have hx : x.toList = x.data.toList := ByteArray.toList_eq x
  by_cases h : x.data.toList = [45]
  · have e : unE x.data.toList = 5 := by unfold unE; rw [if_pos h]
    have e1 : (x.toList == [45]) = true := by rw [hx]; simpa using h
    rw [e]
    clear hx h e
    go_enter Tryz.func99, Tryz.ntmps99
    go_wp2_with fail
    go_ret
    exact ⟨rfl, gb_refl _ _⟩
  · have e : unE x.data.toList = 6 := by unfold unE; rw [if_neg h]
    have e1 : (x.toList == [45]) = false := by rw [hx]; simpa using h
    rw [e]
    clear hx h e
    go_enter Tryz.func99, Tryz.ntmps99
    go_wp2_with fail
    go_ret
    exact ⟨rfl, gb_refl _ _⟩

set_option maxRecDepth 100000 in
set_option maxHeartbeats 4000000 in
theorem called_c (T : List Tok) (p : Option Addr) (c : Nat) (w : World) (hT : T.length ≤ 150000) (h1 : 1 < T.length) (h2 : (tkT T 1).text = [46] → 2 < T.length) (ht : TAt w p T) :
    Calls Tryz.prog 100 #[.slice p T.length c] w (fun e w' => e = .returned (.tuple #[strV (if (tkT T 1).text = [46] then (tkT T 0).text else []), strV (if (tkT T 1).text = [46] then (tkT T 2).text else (tkT T 0).text)]) ∧ w.grownBy w' none) := by
  obtain ⟨g, off, rfl, hgl, -, -, t2, -⟩ := tok_cells ht (i := 0) (by omega)
  obtain ⟨g1, off1, hp1, -, -, -, u2, -⟩ := tok_cells ht (i := 1) h1
  injection hp1 with hp1; injection hp1 with hp1 hp2; subst hp1 hp2
  have hx : (⟨(tkT T 1).text.toArray⟩ : ByteArray).toList = (tkT T 1).text := by rw [ByteArray.toList_eq]
  unfold strV at t2 u2 ⊢
  obtain ⟨m, hm⟩ : ∃ m, T.length = m := ⟨_, rfl⟩
  have y0 : decide ((0 : Int) < (m : Int)) = true := decide_eq_true (by omega)
  have y1 : decide ((1 : Int) < (m : Int)) = true := decide_eq_true (by omega)
  have z0 : decide (0 < m) = true := decide_eq_true (by omega)
  have z1 : decide (1 < m) = true := decide_eq_true (by omega)
  by_cases hd : (tkT T 1).text = [46]
  · obtain ⟨g3, off3, hp3, -, -, -, v2, -⟩ := tok_cells ht (i := 2) (h2 hd)
    injection hp3 with hp3; injection hp3 with hp3 hp4; subst hp3 hp4
    unfold strV at v2
    have h2 := h2 hd
    have y2 : decide ((2 : Int) < (m : Int)) = true := decide_eq_true (by omega)
    have z2 : decide (2 < m) = true := decide_eq_true (by omega)
    have e1 : ((⟨(tkT T 1).text.toArray⟩ : ByteArray).toList == [46]) = true := by rw [hx]; simpa using hd
    rw [if_pos hd, if_pos hd, hm]
    generalize (⟨(tkT T 1).text.toArray⟩ : ByteArray) = x1 at *
    generalize (⟨(tkT T 0).text.toArray⟩ : ByteArray) = x0 at *
    generalize (⟨(tkT T 2).text.toArray⟩ : ByteArray) = x2 at *
    rw [hm] at hT h1 h2
    clear hx ht hd hm
    go_enter Tryz.func100, Tryz.ntmps100
    go_wp2_with fail
    go_quiet (fail)
    go_wp2_with fail
    go_ret2
    exact ⟨rfl, gb_drewN (gb_refl _ _) _⟩
  · have e1 : ((⟨(tkT T 1).text.toArray⟩ : ByteArray).toList == [46]) = false := by rw [hx]; simpa using hd
    rw [if_neg hd, if_neg hd, hm]
    generalize (⟨(tkT T 1).text.toArray⟩ : ByteArray) = x1 at *
    generalize (⟨(tkT T 0).text.toArray⟩ : ByteArray) = x0 at *
    rw [hm] at hT h1
    clear hx ht hd hm h2
    go_enter Tryz.func100, Tryz.ntmps100
    go_wp2_with fail
    go_quiet (fail)
    go_wp2_with fail
    go_ret2
    exact ⟨rfl, gb_drewN (gb_refl _ _) _⟩
end Go.Proofs.YtoahgeleenpnjaaGreatDoor
namespace Go.Proofs.YtoahgeleenpnjaaGreatDoor
open Go.RowKit

theorem ownL_append : ∀ a b : List Tr, ownL (a ++ b) = ownL a ++ ownL b
  | [], b => rfl
  | .lf i :: a, b => by simp [ownL, ownL_append a b]
  | .nd k l :: a, b => by simp [ownL, ownL_append a b]
theorem ownL_len : ∀ l : List Tr, (ownL l).length ≤ l.length
  | [] => Nat.le_refl _
  | .lf i :: a => by have := ownL_len a; simp only [ownL, List.length_cons]; omega
  | .nd k l :: a => by have := ownL_len a; simp only [ownL, List.length_cons]; omega
theorem take_snoc {α : Type} {l : List α} {j : Nat} {t : α} (h : l[j]? = some t) : l.take (j + 1) = l.take j ++ [t] := by
  rw [List.take_add_one, h]; rfl
theorem ownL_lf {l : List Tr} {j i : Nat} (h : l[j]? = some (.lf i)) : ownL (l.take (j + 1)) = ownL (l.take j) ++ [i] := by
  rw [take_snoc h, ownL_append]; rfl
theorem ownL_nd {l : List Tr} {j k : Nat} {m : List Tr} (h : l[j]? = some (.nd k m)) : ownL (l.take (j + 1)) = ownL (l.take j) := by
  rw [take_snoc h, ownL_append]; simp [ownL]
theorem lv_mem : ∀ {l : List Tr} {j i : Nat}, l[j]? = some (.lf i) → i ∈ lvTs l
  | [], j, i, h => by simp at h
  | t :: l, j, i, h => by
    simp only [lvTs, List.mem_append]
    match j, h with
    | 0, h => simp at h; subst h; left; simp [lvT]
    | j + 1, h => right; exact lv_mem (by simpa using h)
theorem kOks_get : ∀ {l : List Tr} {j : Nat} {t : Tr}, kOks l → l[j]? = some t → kOk t
  | [], j, t, _, h => by simp at h
  | u :: l, j, t, hk, h => by
    simp only [kOks] at hk
    match j, h with
    | 0, h => simp at h; subst h; exact hk.1
    | j + 1, h => exact kOks_get hk.2 (by simpa using h)

def OwnTok (T : List Tok) (l : List Tr) (w : World) (e : Ending) (w' : World) : Prop :=
  w.grownBy w' none ∧ ∃ p c, e = .returned (.slice p (ownL l).length c) ∧ TAt w' p ((ownL l).map (tkT T))

set_option maxRecDepth 100000 in
set_option maxHeartbeats 8000000 in
theorem aTokens_c {T : List Tok} {N : List Nd} {K : Kf} (hT : T.length ≤ 150000) (hN : N.length ≤ 150000) {n : Nat} {kd : Int} {tk : Int} {ks : List Int} {l : List Tr} (hx : N[n]? = some ⟨kd, tk, ks⟩) (hkt : KT N n ks l) (hko : kOks l) (hlv : ∀ i ∈ lvTs l, i < T.length) (hlm : l.length ≤ 150000) (pt pn : Option Addr) (ct cn : Nat) (w : World) (ht : TAt w pt T) (h : NodesAt w pn N K) :
    Calls Tryz.prog 57 #[.agg #[.slice pt T.length ct, .slice pn N.length cn], .int .i64 (n : Int)] w (OwnTok T l w) := by
  have hgA := World.grownBy_alloc w (.cells #[.slice pt T.length ct, .slice pn N.length cn] 83) none
  have hA := heap_alloc_new w (.cells #[.slice pt T.length ct, .slice pn N.length cn] 83)
  have HKI := Lib.hid (fun (n : Nat) (x : Nd) W (hx : N[n]? = some x) h => kind_r (K := K) hN hx pt pn T.length ct cn W h)
  have HKD := Lib.hid (fun W h => kids_r (K := K) hN hx pt pn T.length ct cn W h)
  have HTK := Lib.hid (fun (n i : Nat) W (hx : N[n]? = some ⟨19, (i : Int), []⟩) (hi : i < T.length) h1 h2 => token_r (K := K) hT hN hx hi pt pn ct cn W h1 h2)
  have HKV := Lib.hid (fun W (h : NodesAt W pn N K) => (h.2 n _ hx))
  have HT := Lib.hid (ht.kept hgA); have HN := Lib.hid (h.kept hgA); have HKT := Lib.hid hkt; have HKO := Lib.hid hko; have HLV := Lib.hid hlv
  have hkl := hkt.1
  obtain ⟨b, hb⟩ : ∃ b, w.heap.size = b := ⟨_, rfl⟩
  have HBW := Lib.hid hb
  rw [hb] at hA
  obtain ⟨W, hW⟩ : ∃ W, w.alloc (.cells #[.slice pt T.length ct, .slice pn N.length cn] 83) = W := ⟨_, rfl⟩
  rw [hW] at hA hgA HT HN
  obtain ⟨mt, hmt⟩ : ∃ mt, T.length = mt := ⟨_, rfl⟩
  obtain ⟨mn, hmn⟩ : ∃ mn, N.length = mn := ⟨_, rfl⟩
  obtain ⟨M, hM⟩ : ∃ M, ks.length = M := ⟨_, rfl⟩
  have HM := Lib.hid hM
  rw [hmt] at hA hW HKI HKD HTK ⊢
  rw [hmn] at hA hW HKI HKD HTK ⊢
  rw [hM] at HKD hkl
  have hMm : M ≤ 150000 := by omega
  have HKL := Lib.hid hkl
  have HA := Lib.hid hA; have HGA := Lib.hid hgA
  have HTL := Lib.hid hmt
  obtain ⟨a0, a1, a2⟩ := cells2 hA
  have HKS : Hid (K n = ((K n).1, (K n).2)) := Lib.hid rfl
  generalize (K n).1 = pk at *
  generalize (K n).2 = ck at *
  clear ht h hkt hko hlv hx hA hgA hmt hmn hM hT hN hkl hlm
  go_enter Tryz.func57, Tryz.ntmps57
  go_wp2_with fail
  try rw [hb]
  clear hb hW
  refine (HKD.out _ HN.out).mono ?_
  rintro e w1 ⟨rfl, hg1⟩
  have HG1 := Lib.hid hg1
  have HT := Lib.hid (HT.out.kept hg1); have HN := Lib.hid (HN.out.kept hg1)
  have HA := Lib.hid (bx hg1 HA.out)
  have hA := HA.out
  obtain ⟨a0, a1, a2⟩ := cells2 hA
  clear hA hg1
  go_wp2_with fail
  go_loopw [5, 12] (fun ov iv wr => ∃ j : Nat, j ≤ M ∧ iv = .int .i64 (j : Int) ∧ Hid (OwnT 92 wr w1.heap.size ov ((ownL (l.take j)).map (tkT T))) ∧ Hid (Below w1.heap.size w1 wr)) (fun _ iv _ => M - (intOf iv).toNat)
  case atStart => exact ⟨0, Nat.zero_le _, rfl, Lib.hid (by simpa [ownL] using OwnT.nil _ _ _), Below.refl _ _⟩
  case round =>
    obtain ⟨j, hj, rfl, HO, HB⟩ := hrel
    have HGW : Hid (w1.grownBy wr none) := Lib.hid (below_gb HB.out)
    have HAr := Lib.hid (bx HGW.out HA.out)
    have hAr := HAr.out
    obtain ⟨a0, a1, a2⟩ := cells2 hAr
    have HNr := Lib.hid (HN.out.kept HGW.out); have HTr := Lib.hid (HT.out.kept HGW.out)
    clear hAr
    by_cases hlt : j < M
    · obtain ⟨t, ht⟩ : ∃ t, l[j]? = some t := ⟨l[j]'(by have := HKL.out; omega), List.getElem?_eq_getElem _⟩
      obtain ⟨k, hk, hta, hkn⟩ := HKT.out.2 j t ht
      obtain ⟨g, off, rfl, hgl, ck0⟩ := kid_at (HKV.out _ HNr.out) hk
      have HLL := Lib.hid (ownL_len (l.take j))
      have y1 : (0 : Int) ≤ (j : Int) := by omega
      have y2 : (j : Int) < (M : Int) := by omega
      have y3 : decide (j < M) = true := decide_eq_true hlt
      have y4 : decide ((j : Int) < (M : Int)) = true := decide_eq_true y2
      cases t with
      | lf i =>
        obtain ⟨n', hn', hnx⟩ := hta.lf
        have hn' : k = n' := by omega
        subst hn'
        have hil := HLV.out i (lv_mem ht)
        rw [HTL.out] at hil
        have HK1 := Lib.hid (HKI.out k _ wr hnx HNr.out)
        have HK2 := Lib.hid (fun W h1 h2 => HTK.out k i W hnx hil h1 h2)
        have HTE := Lib.hid (ownL_lf ht)
        clear ht hk hta hkn hnx hil
        go_wp2_with fail
        refine HK1.out.mono ?_
        rintro e w2 ⟨rfl, hg2⟩
        have hA2 := bx hg2 HAr.out
        have HA2 := Lib.hid hA2
        obtain ⟨a0, a1, a2⟩ := cells2 hA2
        have HG2 := Lib.hid hg2
        have HT2 := Lib.hid (HTr.out.kept hg2); have HN2 := Lib.hid (HNr.out.kept hg2)
        clear hA2 hg2 HK1
        go_wp2_with fail
        refine (HK2.out _ HT2.out HN2.out).mono ?_
        rintro e w3 ⟨rfl, hg3⟩
        have HG3 := Lib.hid (gb_trans HG2.out hg3)
        have HO3 := Lib.hid (HO.out.kept HG3.out)
        have HB3 := Lib.hid (Below.trans2 HB.out (Below.gb HG3.out HB.out.size))
        clear hg3 HK2
        unfold tokVal
        have HTV : Hid (tokV (tkT T i) = [.int .i64 ((tkT T i).kind : Int), strV (tkT T i).lead, strV (tkT T i).text, .int .i64 ((tkT T i).pos : Int)]) := Lib.hid rfl
        unfold strV at HTV ⊢
        have HLM : Hid (((ownL (l.take j)).map (tkT T)).length ≤ 1000000) := Lib.hid (by have h1 := HLL.out; have h2 := List.length_take (i := j) (l := l); rw [List.length_map]; omega)
        go_wp2_with (at_builtin; go_loud (refine wpList_appT (t := 23) Tryz.underlying23 infoT rfl (by decide) rfl _ _ rfl w1.heap.size ((ownL (l.take j)).map (tkT T)) (tkT T i) _ _ _ _ HTV.out u5 rfl HO3.out _ rfl rfl HLM.out HB3.out.size ?_))
        intro g' cap' w4 hO4 hB4
        have HO4 : Hid (OwnT 92 w4 w1.heap.size (.slice (some ⟨g', 0, none⟩) ((ownL (l.take j)).length + 1) cap') ((ownL (l.take (j + 1))).map (tkT T))) := Lib.hid (by rw [HTE.out, List.map_append]; exact hO4)
        have HB4 := Lib.hid (Below.trans2 HB3.out hB4)
        clear hO4 hB4
        go_wp2_with fail
        go_roundw
        case rel => exact ⟨j + 1, by omega, by go_num, HO4, HB4⟩
        case measure => simp [intOf]; omega
      | nd m q =>
        obtain ⟨n', ks', hn', hnx, -⟩ := hta.nd
        have hn' : k = n' := by omega
        subst hn'
        have hkd := kOks_get HKO.out ht
        simp only [kOk] at hkd
        have hne : ((m : Int) == 19) = false := beq_eq_false_iff_ne.2 (by omega)
        have hne' : (m == 19) = false := beq_eq_false_iff_ne.2 (by omega)
        have HK1 := Lib.hid (HKI.out k _ wr hnx HNr.out)
        have HTE := Lib.hid (ownL_nd ht)
        clear ht hk hta hkn hnx hkd
        go_wp2_with fail
        refine HK1.out.mono ?_
        rintro e w2 ⟨rfl, hg2⟩
        have HG2 := Lib.hid hg2
        clear hg2 HK1
        go_wp2_with fail
        go_roundw
        case rel => exact ⟨j + 1, by omega, by go_num, Lib.hid (by rw [HTE.out]; exact HO.out.kept HG2.out), Lib.hid (Below.trans2 HB.out (Below.gb HG2.out HB.out.size))⟩
        case measure => simp [intOf]; omega
    · obtain rfl : j = M := by omega
      have hO := HO.out
      rw [List.take_of_length_le (by have := HKL.out; omega)] at hO
      obtain ⟨p, c, rfl, hta, -, -, -⟩ := hO.is
      have HTA := Lib.hid hta
      have HLE : Hid (((ownL l).map (tkT T)).length = (ownL l).length) := Lib.hid (List.length_map _)
      rw [HLE.out]
      have HGE := Lib.hid (gb_trans (gb_trans HGA.out HG1.out) HGW.out)
      have HPE : Hid (∀ w', w.grownBy w' none → TAt w' p ((ownL l).map (tkT T)) → OwnTok T l w (.returned (.slice p (ownL l).length c)) w') := Lib.hid (fun w' h1 h2 => ⟨h1, p, c, rfl, h2⟩)
      generalize (ownL l).length = L at *
      clear hta hO
      go_wp2_with fail
      go_ret
      exact HPE.out _ HGE.out HTA.out
end Go.Proofs.YtoahgeleenpnjaaGreatDoor
namespace Go.Proofs.YtoahgeleenpnjaaGreatDoor
open Go.RowKit

/-- The package's variable holds the signs. -/
def LaidS (w : World) : Prop := ∀ j v, (signs8.map strV)[j]? = some v → w.cell? ⟨0, j, none⟩ = some v
theorem LaidS.kept {w w' : World} (h : LaidS w) (hg : w.grownBy w' none) : LaidS w' := fun j v hj => hg.cell (h j v hj) (by simp)
theorem sizeS8 : (Tryz.prog.info? 178).map (·.size) = some (signs8.map strV).length := by kernel_rfl

/-- Where a text stands in the rest of a list, if it doesn't stand ahead. -/
theorem idx_at {L : List (List UInt8)} {k : Nat} {x : List UInt8} (hx : L[k]? = some x) (hb : ∀ j y, j < k → L[j]? = some y → y ≠ x) : L.idxOf x = k := by
  induction L generalizing k with
  | nil => simp at hx
  | cons a L ih =>
    match k, hx, hb with
    | 0, hx, _ => simp at hx; subst hx; simp
    | k + 1, hx, hb =>
      have ha : a ≠ x := hb 0 a (by omega) rfl
      have hbx : (a == x) = false := by simpa using ha
      rw [List.idxOf_cons, hbx, cond_false, ih (k := k) (by simpa using hx) (fun j y hj hy => hb (j + 1) y (by omega) (by simpa using hy))]
theorem binE_at {k : Nat} {x : List UInt8} (hx : signs8[k]? = some x) (hb : ∀ j y, j < k → signs8[j]? = some y → y ≠ x) : binE x = 7 + k := by
  unfold binE
  rw [idx_at hx hb, if_pos (by have := (List.getElem?_eq_some_iff.1 hx).1; exact this)]
theorem binE_none {x : List UInt8} (hb : ∀ j y, j < 14 → signs8[j]? = some y → y ≠ x) : binE x = 0 := by
  unfold binE
  rw [if_neg]
  intro h
  have h1 : signs8.idxOf x < signs8.length := h
  have h2 := List.getElem_idxOf h1
  exact hb _ _ h (List.getElem?_eq_getElem h1) h2

set_option maxRecDepth 100000 in
set_option maxHeartbeats 4000000 in
theorem binary_c (s : ByteArray) (w : World) (h : LaidS w) : Calls Tryz.prog 98 #[.string s] w (ValPost (.int .i64 (binE s.data.toList : Nat)) w) := by
  have hr : w.rangeAt 0 0 (signs8.map strV) := fun j v hj => by rw [Nat.zero_add]; exact h j v hj
  have HRG := Lib.hid hr
  clear hr h
  have HSL := Lib.hid (toList_data s)
  go_enter Tryz.func98, Tryz.ntmps98
  go_wp2_with (refine wpList_load_mid rfl 178 _ rfl 0 0 rfl (signs8.map strV) _ HRG.out Tryz.underlying178 rfl sizeS8 ?_)
  have HA : Hid (ArrIs (.agg (signs8.map strV).toArray) signs8) := Lib.hid rfl
  generalize Value.agg (signs8.map strV).toArray = A at *
  go_wp2
  go_loopw [6] (fun i wr => ∃ k : Nat, k ≤ 14 ∧ i = .int .i64 k ∧ Hid (∀ j y, j < k → signs8[j]? = some y → y ≠ s.data.toList) ∧ wr = w) (fun i _ => 14 - (intOf i).toNat)
  case atStart => exact ⟨0, Nat.zero_le _, rfl, Lib.hid (fun j y hj => by omega), rfl⟩
  case round =>
    obtain ⟨k, hk, rfl, HC, rfl⟩ := hrel
    by_cases hlt : k < 14
    · have d1 : decide ((k : Int) < 14) = true := decide_eq_true (by omega)
      have d1' : decide (k < 14) = true := decide_eq_true hlt
      obtain ⟨x, hx⟩ : ∃ x, signs8[k]? = some x := ⟨signs8[k]'hlt, List.getElem?_eq_getElem _⟩
      have hrun := HA.out.run (t := 178) (n := 14) Tryz.underlying178 rfl hx
      obtain ⟨y, hy⟩ : ∃ y : ByteArray, (⟨x.toArray⟩ : ByteArray) = y := ⟨_, rfl⟩
      have hyl : y.toList = x := by rw [toList_data, ← hy]
      rw [hy] at hrun
      have hw : IntKind.i64.wrap (7 + (k : Int)) = ((7 + k : Nat) : Int) := by rw [IntWalk.i64_in _ (by omega)]; omega
      by_cases he : x = s.data.toList
      · have d2 : (s.toList == y.toList) = true := by rw [hyl, HSL.out, he]; simp
        have HR : Hid (binE s.data.toList = 7 + k) := Lib.hid (by rw [← he]; exact binE_at hx (fun j z hj hz => by rw [he]; exact HC.out j z hj hz))
        clear hx he hyl hy
        go_wp2
        go_ret
        exact ⟨by rw [HR.out]; show Ending.returned (.int .i64 (7 + (k : Int))) = _; rw [show (((7 + k : Nat)) : Int) = 7 + (k : Int) by omega], gb_refl _ _⟩
      · have d2 : (s.toList == y.toList) = false := by rw [hyl, HSL.out]; simpa using fun e => he e.symm
        have HR : Hid (∀ j y, j < k + 1 → signs8[j]? = some y → y ≠ s.data.toList) := Lib.hid (fun j z hj hz => by
          by_cases e : j = k
          · subst e; rw [hx] at hz; cases hz; exact he
          · exact HC.out j z (by omega) hz)
        clear hx he hyl hy
        go_wp2
        go_roundw
        case rel => exact ⟨k + 1, by omega, by go_num, HR, by first | rfl | trivial⟩
        case measure => (simp [intOf] <;> omega)
    · obtain rfl : k = 14 := by omega
      have HR : Hid (binE s.data.toList = 0) := Lib.hid (binE_none HC.out)
      go_wp2
      go_ret
      exact ⟨by rw [HR.out]; rfl, gb_refl _ _⟩
end Go.Proofs.YtoahgeleenpnjaaGreatDoor
namespace Go.Proofs.YtoahgeleenpnjaaGreatDoor
open Go.ChangeShapes Go.WideShapes Go.ChangeAt Go.RowKit Go.ChangeMaps

def laidL : List (String × DataW Unit) := [("math/bits.deBruijn32tab", Rows.laid_math_bits_deBruijn32tab), ("math/bits.deBruijn64tab", Rows.laid_math_bits_deBruijn64tab), ("internal/strconv.uint64pow10", Rows.laid_internal_strconv_uint64pow10), ("unicode/utf8.acceptRanges", Rows.laid_unicode_utf8_acceptRanges), ("touchstone/lex.keys", Rows.laid_touchstone_lex_keys), ("touchstone/lex.signs", Rows.laid_touchstone_lex_signs), ("touchstone/ast.signs", Rows.laid_touchstone_ast_signs), ("unicode/utf8.first", Rows.laid_unicode_utf8_first)]

/-- An array of strings that reads as these texts holds them, cell for cell. -/
theorem cells_of_strs {H : Type} {enc : TypeId × Value → H} {P : Program} {w : World} {base : Nat} {sp : Nat → Bool} {held : Bool} {fuel : Nat} {t e : TypeId} {n : Nat} {cs : List Value} {zs : List (List UInt8)} {p : List MemPlace}
    (ht : P.underlying t = some (.array n e)) (he : P.underlying e = some .string) (hce : P.cellsOf e = 1) (hct : P.cellsOf t = n)
    (h : DataW.trod enc P w base sp held fuel t cs = some (.agg (zs.map fun z => .lit (.string z)), p)) : cs = zs.map strV := by
  obtain ⟨xs, m, rfl, hx, hl, hxl, hall⟩ := DataW.trod_array ht h
  simp only [Prod.mk.injEq, DataW.agg.injEq] at hx
  have hzl : zs.length = n := by
    have := congrArg List.length hx.1
    simp at this; omega
  apply List.ext_getElem?
  intro i
  by_cases hi : i < n
  · have h1 := hall i hi
    rw [hce, Nat.mul_one] at h1
    have hxi : xs[i]? = some xs[i] := List.getElem?_eq_getElem (by omega)
    rw [hxi] at h1
    obtain ⟨s, hc, hs, _⟩ := DataW.trod_string he h1
    have h2 : cs[i]? = some (.string s) := by
      have := congrArg (·[0]?) hc
      simpa [List.getElem?_take, List.getElem?_drop] using this
    have h3 : (xs.map (·.1))[i]? = some (DataW.lit (.string s.data.toList) : DataW H) := by simp [hxi, hs]
    rw [← hx.1] at h3
    simp only [List.getElem?_map, Option.map_eq_some_iff, DataW.lit.injEq, Lit.string.injEq] at h3
    obtain ⟨z, hz, hzs⟩ := h3
    rw [h2, List.getElem?_map, hz, hzs]
    rfl
  · rw [List.getElem?_eq_none (by omega), List.getElem?_eq_none (by simp; omega)]

theorem tKeys : (Tryz.prog.globals[1]?).map (·.type) = some 195 := by kernel_rfl
theorem tSigns : (Tryz.prog.globals[2]?).map (·.type) = some 196 := by kernel_rfl
theorem gAsts : Tryz.prog.globalNamed "touchstone/ast.signs" = some 0 := by kernel_rfl
theorem tAsts : (Tryz.prog.globals[0]?).map (·.type) = some 178 := by kernel_rfl
theorem cAsts : Tryz.prog.cellsOf 178 = 14 := by kernel_rfl
theorem cStr : Tryz.prog.cellsOf 9 = 1 := by kernel_rfl
theorem cKeys : Tryz.prog.cellsOf 195 = 15 := by kernel_rfl
theorem cSigns : Tryz.prog.cellsOf 196 = 22 := by kernel_rfl

theorem of_laid {W : World} (h : laidMetH Tryz.prog laidL W) : LaidE W ∧ LaidS W := by
  rw [MakeChecks.laidMetH_plain _ _ _ (by kernel_rfl)] at h
  obtain ⟨ps, ⟨g0, t0, cs0, f0, p0, q0, hg0, ht0, hv0, hd0, ⟨g1, t1, cs1, f1, p1, q1, hg1, ht1, hv1, hd1, ⟨g2, t2, cs2, f2, p2, q2, hg2, ht2, hv2, hd2, ⟨g3, t3, cs3, f3, p3, q3, hg3, ht3, hv3, hd3, ⟨g4, t4, cs4, f4, p4, q4, hg4, ht4, hv4, hd4, ⟨g5, t5, cs5, f5, p5, q5, hg5, ht5, hv5, hd5, ⟨g6, t6, cs6, f6, p6, q6, hg6, ht6, hv6, hd6, _, _⟩, _⟩, _⟩, _⟩, _⟩, _⟩, _⟩, _, _⟩ := h
  obtain rfl := Option.some.inj (gKeys.symm.trans hg4)
  obtain rfl := Option.some.inj (gSigns.symm.trans hg5)
  obtain rfl := Option.some.inj (gAsts.symm.trans hg6)
  obtain rfl := Option.some.inj (tKeys.symm.trans ht4)
  obtain rfl := Option.some.inj (tSigns.symm.trans ht5)
  obtain rfl := Option.some.inj (tAsts.symm.trans ht6)
  have k1 := cells_of_strs (zs := keysL) Tryz.underlying195 Tryz.underlying9 cStr cKeys hd4
  have k2 := cells_of_strs (zs := signsL) Tryz.underlying196 Tryz.underlying9 cStr cSigns hd5
  have k3 := cells_of_strs (zs := signs8) Tryz.underlying178 Tryz.underlying9 cStr cAsts hd6
  refine ⟨⟨fun j v hj => ?_, fun j v hj => ?_⟩, fun j v hj => ?_⟩
  · rw [World.var?_cell hg4 hv4 j, ← Array.getElem?_toList, k1]; exact hj
  · rw [World.var?_cell hg5 hv5 j, ← Array.getElem?_toList, k2]; exact hj
  · rw [World.var?_cell hg6 hv6 j, ← Array.getElem?_toList, k3]; exact hj

theorem own : ownKnob Tryz.prog.godebug = none := by kernel_rfl
set_option maxRecDepth 100000 in
theorem start_shaped (os : Os) (args : Array Value) : ((World.laidAll Tryz.prog os laidL).forCall (fun _ _ => 0) ⟨#[], args, []⟩).Shaped Tryz.prog := World.shaped_of_ZipB (by kernel_rfl) (by kernel_rfl)
set_option maxRecDepth 100000 in
theorem start_met (os : Os) (args : Array Value) : laidMetH Tryz.prog laidL ((World.laidAll Tryz.prog os laidL).forCall (fun _ _ => 0) ⟨#[], args, []⟩).memory := by
  rw [MakeChecks.laidMetH_plain _ _ _ (by kernel_rfl)]
  exact laidMet_laidAll _ (by kernel_rfl) (by kernel_rfl)
end Go.Proofs.YtoahgeleenpnjaaGreatDoor
namespace Go.Proofs.YtoahgeleenpnjaaGreatDoor
open Go.RowKit

def kidsE : Ex → List Ex
  | .mk _ _ _ _ _ ks _ => ks
section
variable {σ : Type} (st : σ → Ex → Nat → σ)
mutual
/-- What is told of an expression, by steps. -/
def runE : Ex → σ → σ
  | .mk op nm md nu ys ks ps, s => runK (.mk op nm md nu ys ks ps) 0 ks (st s (.mk op nm md nu ys ks ps) 0)
def runK (x : Ex) : Nat → List Ex → σ → σ
  | _, [], s => s
  | j, k :: l, s => runK x (j + 1) l (st (runE k s) x (j + 1))
end
end
mutual
def cntE : Ex → Nat
  | .mk _ _ _ _ _ ks _ => 1 + cntK ks
def cntK : List Ex → Nat
  | [] => 0
  | k :: l => cntE k + 1 + cntK l
end
/-- An expression that is gone through: how many of its kids are done, and where it lies. -/
structure Fm where
  x : Ex
  d : Nat
  g : Nat
  o : Nat
def rsF {σ : Type} (st : σ → Ex → Nat → σ) (f : Fm) (s : σ) : σ := runK st f.x f.d ((kidsE f.x).drop f.d) (st s f.x f.d)
def runG {σ : Type} (st : σ → Ex → Nat → σ) (G : List Fm) (s : σ) : σ := G.foldr (rsF st) s
def cntF (f : Fm) : Nat := 1 + cntK ((kidsE f.x).drop f.d)
def cntG (G : List Fm) : Nat := (G.map cntF).sum
theorem runE_eq {σ : Type} (st : σ → Ex → Nat → σ) (x : Ex) (s : σ) (g o : Nat) : runE st x s = rsF st ⟨x, 0, g, o⟩ s := by
  cases x with
  | mk op nm md nu ys ks ps => simp only [runE, rsF, kidsE, List.drop_zero]
theorem cntE_eq (x : Ex) (g o : Nat) : cntE x = cntF ⟨x, 0, g, o⟩ := by
  cases x with
  | mk op nm md nu ys ks ps => simp only [cntE, cntF, kidsE, List.drop_zero]
theorem runG_snoc {σ : Type} (st : σ → Ex → Nat → σ) (G : List Fm) (f : Fm) (s : σ) : runG st (G ++ [f]) s = runG st G (rsF st f s) := by unfold runG; rw [List.foldr_append]; rfl
theorem cntG_snoc (G : List Fm) (f : Fm) : cntG (G ++ [f]) = cntG G + cntF f := by unfold cntG; simp
theorem rsF_done {σ : Type} (st : σ → Ex → Nat → σ) {f : Fm} (h : f.d = (kidsE f.x).length) (s : σ) : rsF st f s = st s f.x f.d ∧ cntF f = 1 := by
  unfold rsF cntF
  rw [h, List.drop_length]; exact ⟨rfl, rfl⟩
theorem rsF_kid {σ : Type} (st : σ → Ex → Nat → σ) {f : Fm} {k : Ex} (h : (kidsE f.x)[f.d]? = some k) (s : σ) (g o : Nat) : rsF st f s = rsF st { f with d := f.d + 1 } (rsF st ⟨k, 0, g, o⟩ (st s f.x f.d)) ∧ cntF f = 1 + (cntF { f with d := f.d + 1 } + cntF ⟨k, 0, g, o⟩) := by
  have e : (kidsE f.x).drop f.d = k :: (kidsE f.x).drop (f.d + 1) := by
    have h1 := (List.getElem?_eq_some_iff.1 h)
    obtain ⟨h1, h2⟩ := h1
    rw [List.drop_eq_getElem_cons h1, h2]
  constructor
  · rw [← runE_eq]
    unfold rsF
    rw [e]
    simp only [runK]
  · rw [← cntE_eq]
    unfold cntF
    rw [e]
    simp only [cntK]
    omega

/-- An expression lies at an address. -/
def PAtE (F : Nat → Prop) (w : World) (g o : Nat) (x : Ex) : Prop := F g ∧ g < w.heap.size ∧ ∃ q, q.length = 8 ∧ (∀ (i : Nat) (v : Value), q[i]? = some v → w.cell? ⟨g, o + i, none⟩ = some v) ∧ EAt F w x q
theorem EAt.len {F : Nat → Prop} {w : World} {x : Ex} {q : List Value} (h : EAt F w x q) : q.length = 8 := by
  cases x with
  | mk op nm md nu ys ks ps =>
    simp only [EAt] at h
    obtain ⟨s, pw, nw, cw, pk, ck, rows, rfl, -⟩ := h
    rfl
theorem PAtE.same {F S : Nat → Prop} {w w' : World} {g o : Nat} {x : Ex} (h : PAtE F w g o x) (hg : Fr2 S w w') (hS : ∀ k, F k → ¬ S k) : PAtE F w' g o x := by
  obtain ⟨hF, hl, q, hq, hc, he⟩ := h
  exact ⟨hF, Nat.lt_of_lt_of_le hl hg.size, q, hq, fun i v hi => by rw [World.cell?_of_block (w := w) (hg.block g hl (hS g hF))]; exact hc i v hi, EAt.same hg hS he⟩
/-- The cells that a walk reads: how many kids, and where. -/
theorem PAtE.kids {F : Nat → Prop} {w : World} {g o : Nat} {x : Ex} (h : PAtE F w g o x) : ∃ pk ck, w.cell? ⟨g, o + 6, none⟩ = some (.slice pk (kidsE x).length ck) ∧ ∀ (j : Nat) (k : Ex), (kidsE x)[j]? = some k → ∃ g' o', pk = some ⟨g', o', none⟩ ∧ PAtE F w g' (o' + j * 8) k := by
  cases x with
  | mk op nm md nu ys ks ps =>
    obtain ⟨hF, hl, q, hq, hc, he⟩ := h
    simp only [EAt] at he
    obtain ⟨s, pw, nw, cw, pk, ck, rows, rfl, h2, h3, h4, h5⟩ := he
    refine ⟨pk, ck, hc 6 _ rfl, fun j k hk => ?_⟩
    have hk : ks[j]? = some k := hk
    have hne : ks ≠ [] := fun e => by rw [e] at hk; simp at hk
    obtain ⟨⟨g', o', x'⟩, ha, hFa⟩ := h5 hne
    obtain ⟨r, hr, hre⟩ := Ls_get h4 hk
    obtain ⟨g2, o2, hp, hl2, hc2⟩ := h3.resolve_left (fun e => by rw [e] at hr; simp at hr)
    rw [ha] at hp
    simp only [Option.some.injEq, Addr.mk.injEq] at hp
    obtain ⟨rfl, rfl, rfl⟩ := hp
    exact ⟨g', o', ha, hFa, hl2, r, EAt.len hre, fun i v hi => hc2 j r hr i v hi, hre⟩
theorem kid_size : ∀ (ks : List Ex) (j : Nat) (k : Ex), ks[j]? = some k → cntE k ≤ cntK ks
  | [], j, k, h => by simp at h
  | y :: l, j, k, h => by
    simp only [cntK]
    match j, h with
    | 0, h => simp at h; subst h; omega
    | j + 1, h => have := kid_size l j k (by simpa using h); omega
theorem kids_count : ∀ ks : List Ex, ks.length ≤ cntK ks
  | [] => Nat.zero_le _
  | y :: l => by have := kids_count l; simp only [cntK, List.length_cons]; omega

def rowF (f : Fm) : List Value := [.pointer (some ⟨f.g, f.o, none⟩), .int .i64 (f.d : Int)]
theorem infoP : (Tryz.prog.info? 136).map (fun i => (i.zero, i.size, i.bytes)) = some (some (.agg #[.pointer none, .int .i64 0]), 2, 16) := by kernel_rfl

theorem OwnG.okept {s : Nat} {T : TypeId} {w w' : World} {base b : Nat} {v : Value} {l : List (List Value)} (h : OwnG s T w base v l) (hg : OKept b w w') (hT : T ≠ 5) (hb : b < base) : OwnG s T w' base v l :=
  ⟨⟨h.1.1, h.1.2.imp id fun ⟨g, cap, cur, e, hb1, hh, r⟩ => ⟨g, cap, cur, e, hb1, hg g cur T hh hT (by omega), r⟩⟩, h.2⟩
theorem OwnG.blk {s : Nat} {T : TypeId} {w : World} {base g n c : Nat} {l : List (List Value)} (h : OwnG s T w base (.slice (some ⟨g, 0, none⟩) n c) l) : base ≤ g ∧ ∃ cur, w.heap[g]? = some (.cells cur T (0, 0)) := by
  rcases h.1.2 with ⟨h1, h0⟩ | ⟨g', cap, cur, e, hb, hg, r⟩
  · cases h1
  · injection e with e1 e2 e3
    injection e1 with e1
    injection e1 with e1
    subst e1
    exact ⟨hb, cur, hg⟩

theorem OwnG.pop {s n c : Nat} {T : TypeId} {w : World} {base : Nat} {p : Option Addr} {l : List (List Value)} {q : List Value} (h : OwnG s T w base (.slice p n c) (l ++ [q])) : n = l.length + 1 ∧ OwnG s T w base (.slice p l.length c) l ∧ ∃ g, p = some ⟨g, 0, none⟩ := by
  have h2 := h.1
  have hw := h.2
  rw [List.length_append, List.length_singleton] at h2
  rcases h2.2 with ⟨e, h0⟩ | ⟨g, cap, cur, e, hb, hg, hnc, hcm, hsz, ht⟩
  · omega
  · injection e with e1 e2 e3
    subst e1; subst e2; subst e3
    refine ⟨rfl, ⟨⟨flat_len (fun q hq => hw q (List.mem_append_left _ hq)), .inr ⟨g, c, cur, rfl, hb, hg, by omega, hcm, hsz, ?_⟩⟩, fun q hq => hw q (List.mem_append_left _ hq)⟩, g, rfl⟩
    have hfl := flat_len (fun q hq => hw q (List.mem_append_left _ hq) : Wid s l)
    have h3 : (cur.toList.take ((l.length + 1) * s)).take (l.length * s) = l.flatten := by
      rw [ht, List.flatten_append, List.take_append_of_le_length (by omega), List.take_of_length_le (by omega)]
    rw [List.take_take, Nat.min_eq_left (Nat.mul_le_mul_right _ (by omega))] at h3
    exact h3
theorem OwnG.new {s : Nat} {T : TypeId} (w : World) (base : Nat) (y : List Value) (hy : y.length = s) (h1 : ∀ u ∈ y, u.oneCell' = true) (hb : base ≤ w.heap.size) : OwnG s T (w.alloc (.cells y.toArray T)) base (.slice (some ⟨w.heap.size, 0, none⟩) 1 1) [y] := by
  refine ⟨⟨by simp [hy], .inr ⟨w.heap.size, 1, y.toArray, rfl, hb, heap_alloc_new w _, Nat.le_refl _, by unfold maxLen; omega, by simp [hy], ?_⟩⟩, fun q hq => by simp at hq; subst hq; exact ⟨hy, h1⟩⟩
  subst hy
  simp
theorem OwnG.last2 {n c g : Nat} {T : TypeId} {w : World} {base : Nat} {l : List (List Value)} {a b u : Value} (hu : u.oneCell' = true) (h : OwnG 2 T w base (.slice (some ⟨g, 0, none⟩) n c) (l ++ [[a, b]])) : OwnG 2 T (w.setCell ⟨g, l.length * 2 + 1, none⟩ u) base (.slice (some ⟨g, 0, none⟩) n c) (l ++ [[a, u]]) ∧ w.grownBy (w.setCell ⟨g, l.length * 2 + 1, none⟩ u) (some g) := by
  have hn := h.pop.1
  subst hn
  have hw := h.2
  have hwl : Wid 2 l := fun q hq => hw q (List.mem_append_left _ hq)
  have h1 := h.1
  rw [List.length_append, List.length_singleton] at h1
  have h2 := World.ownsRow.stored h1 (l.length * 2 + 1) u
  refine ⟨⟨?_, fun q hq => ?_⟩, h2.2⟩
  · have e : (l ++ [[a, u]]).flatten = ((l ++ [[a, b]]).flatten).set (l.length * 2 + 1) u := by
      rw [List.flatten_append, List.flatten_append, List.set_append, if_neg (by rw [flat_len hwl]; omega), flat_len hwl]
      simp
    rw [e, List.length_append, List.length_singleton]
    exact h2.1
  · rcases List.mem_append.1 hq with hq | hq
    · exact hwl q hq
    · simp at hq; subst hq
      refine ⟨rfl, fun v hv => ?_⟩
      simp at hv
      rcases hv with rfl | rfl
      · exact (hw [v, b] (by simp)).2 v (by simp)
      · exact hu
theorem OwnG.top2 {n c g : Nat} {T : TypeId} {w : World} {base : Nat} {l : List (List Value)} {a b : Value} (h : OwnG 2 T w base (.slice (some ⟨g, 0, none⟩) n c) (l ++ [[a, b]])) : w.cell? ⟨g, l.length * 2, none⟩ = some a ∧ w.cell? ⟨g, l.length * 2 + 1, none⟩ = some b ∧ (∀ j, w.frozen? ⟨g, j, none⟩ = false) ∧ g < w.heap.size ∧ l.length + 1 ≤ c ∧ c ≤ maxLen := by
  have hn := h.pop.1
  subst hn
  obtain ⟨p, c', e, hga, h1, h2, -⟩ := h.is
  injection e with e1 e2 e3
  subst e1; subst e3
  obtain ⟨g2, o2, hp2, hgl, hcs⟩ := hga.resolve_left (by simp)
  injection hp2 with hp2; injection hp2 with hp2 hp3; subst hp2 hp3
  have a0 := hcs l.length [a, b] (by simp) 0 _ rfl
  have a1 := hcs l.length [a, b] (by simp) 1 _ rfl
  rw [Nat.zero_add, Nat.add_zero] at a0
  rw [Nat.zero_add] at a1
  have h3 := h.1
  rw [List.length_append, List.length_singleton] at h3 h1
  exact ⟨a0, a1, fun j => World.ownsRow.frozenAt h3 j, hgl, h1, h2⟩
theorem list_last8 {α : Type} (l : List α) : l = [] ∨ ∃ l' x, l = l' ++ [x] := by
  rcases List.eq_nil_or_concat l with h | ⟨l', x, h⟩
  · exact .inl h
  · exact .inr ⟨l', x, by simpa using h⟩
theorem cntF_pos (f : Fm) : 1 ≤ cntF f := by unfold cntF; omega
theorem cntG_len : ∀ G : List Fm, G.length ≤ cntG G
  | [] => Nat.zero_le _
  | f :: G => by
    have h1 := cntG_len G
    have h2 := cntF_pos f
    have e : cntG (f :: G) = cntF f + cntG G := by unfold cntG; simp
    rw [e, List.length_cons]; omega
end Go.Proofs.YtoahgeleenpnjaaGreatDoor
namespace Go.Proofs.YtoahgeleenpnjaaGreatDoor
open Go.RowKit

/-- As ExPost, of an expression without kids. -/
def ExPost0 (x : Ex) (w : World) (e : Ending) (w' : World) : Prop := w.grownBy w' none ∧ ∃ q, e = .returned (.agg q.toArray) ∧ EAt (fun k => w.heap.size ≤ k) w' x q ∧ q[6]? = some (.slice none 0 0)
theorem ex_plain {F : Nat → Prop} {w : World} {op ps : Nat} {nm md : List UInt8} {ys : Bool} (ho : op ≠ 1) : EAt F w (.mk op nm md [] ys [] ps) [.int .i64 (op : Int), strV nm, strV md, .bool false, .slice none 0 0, .bool ys, .slice none 0 0, .int .i64 (ps : Int)] := by
  simp only [EAt]
  exact ⟨false, none, 0, 0, none, 0, [], rfl, by unfold NumAt; rw [if_neg ho]; exact ⟨rfl, rfl, rfl, rfl⟩, GAt.nil, by simp [LsE], fun h => absurd rfl h⟩
/-- Three boxes laid one behind the other. -/
theorem three (w : World) (A B C : Obj) : ∃ (W : World) (b0 b1 b2 : Nat), W = ((w.alloc A).alloc B).alloc C ∧ w.heap.size = b0 ∧ w.heap.size + 1 = b1 ∧ w.heap.size + 1 + 1 = b2 ∧ W.heap[b0]? = some A ∧ W.heap[b1]? = some B ∧ W.heap[b2]? = some C ∧ w.grownBy W none ∧ b0 < b1 ∧ b1 < b2 := by
  have h1 := heap_alloc_new w A
  have h2 := heap_alloc_new (w.alloc A) B
  have h3 := heap_alloc_new ((w.alloc A).alloc B) C
  have s1 : (w.alloc A).heap.size = w.heap.size + 1 := by simp
  have s2 : ((w.alloc A).alloc B).heap.size = w.heap.size + 1 + 1 := by simp
  rw [s1] at h2
  rw [s2] at h3
  exact ⟨_, _, _, _, rfl, rfl, rfl, rfl, bx (World.grownBy_alloc _ _ none) (bx (World.grownBy_alloc _ _ none) h1), bx (World.grownBy_alloc _ _ none) h2, h3, gb_alloc (gb_alloc (gb_alloc (gb_refl _ _) _) _) _, by omega, by omega⟩

set_option maxRecDepth 100000 in
set_option maxHeartbeats 8000000 in
theorem with8 (T : List Tok) (p : Option Addr) (c : Nat) (w : World) (hT : T.length ≤ 150000) (h0 : 0 < T.length) (ht : TAt w p T) :
    Calls Tryz.prog 68 #[.int .i64 8, .slice p T.length c] w (ExPost0 (nodeE 8 (tkT T) []) w) := by
  obtain ⟨g, off, rfl, hgl, t0, t1, t2, t3⟩ := tok_cells ht (i := 0) h0
  rw [Nat.zero_mul, Nat.add_zero] at t0 t1 t2 t3
  have HX : Hid (∀ w', w.grownBy w' none → ExPost0 (nodeE 8 (tkT T) []) w (.returned (.agg #[.int .i64 21, .string ⟨#[]⟩, .string ⟨#[]⟩, .bool false, .slice none 0 0, .bool false, .slice none 0 0, .int .i64 ((tkT T 0).pos : Int)])) w') := Lib.hid (fun w' hg => ⟨hg, _, rfl, ex_plain (by decide), rfl⟩)
  obtain ⟨m, hm⟩ : ∃ m, T.length = m := ⟨_, rfl⟩
  rw [hm] at hT h0 ⊢
  have z0 : decide (0 < m) = true := decide_eq_true h0
  have z0' : decide ((0 : Int) < (m : Int)) = true := decide_eq_true (by omega)
  unfold strV at t1 t2
  generalize (⟨(tkT T 0).lead.toArray⟩ : ByteArray) = le at *
  generalize (⟨(tkT T 0).text.toArray⟩ : ByteArray) = te at *
  generalize (tkT T 0).kind = k at *
  generalize (tkT T 0).pos = ps at *
  clear ht hm
  go_enter Tryz.func68, Tryz.ntmps68
  go_wp2_with fail
  refine bodyPost_ret (v := .agg #[.int .i64 21, .string ⟨#[]⟩, .string ⟨#[]⟩, .bool false, .slice none 0 0, .bool false, .slice none 0 0, .int .i64 (ps : Int)]) (by simp [results, Tryz.results68, go_sem]) rfl (HX.out _ (by repeat (first | with_reducible exact gb_refl _ _ | with_reducible refine gb_drew ?_ | with_reducible refine gb_alloc ?_ _)))

set_option maxRecDepth 100000 in
set_option maxHeartbeats 8000000 in
theorem with9 (T : List Tok) (p : Option Addr) (c : Nat) (w : World) (hT : T.length ≤ 150000) (h0 : 0 < T.length) (ht : TAt w p T) :
    Calls Tryz.prog 68 #[.int .i64 9, .slice p T.length c] w (ExPost0 (nodeE 9 (tkT T) []) w) := by
  obtain ⟨g, off, rfl, hgl, t0, t1, t2, t3⟩ := tok_cells ht (i := 0) h0
  rw [Nat.zero_mul, Nat.add_zero] at t0 t1 t2 t3
  have HX : Hid (∀ w', w.grownBy w' none → ExPost0 (nodeE 9 (tkT T) []) w (.returned (.agg #[.int .i64 23, .string ⟨#[]⟩, .string ⟨#[]⟩, .bool false, .slice none 0 0, .bool false, .slice none 0 0, .int .i64 ((tkT T 0).pos : Int)])) w') := Lib.hid (fun w' hg => ⟨hg, _, rfl, ex_plain (by decide), rfl⟩)
  obtain ⟨m, hm⟩ : ∃ m, T.length = m := ⟨_, rfl⟩
  rw [hm] at hT h0 ⊢
  have z0 : decide (0 < m) = true := decide_eq_true h0
  have z0' : decide ((0 : Int) < (m : Int)) = true := decide_eq_true (by omega)
  unfold strV at t1 t2
  generalize (⟨(tkT T 0).lead.toArray⟩ : ByteArray) = le at *
  generalize (⟨(tkT T 0).text.toArray⟩ : ByteArray) = te at *
  generalize (tkT T 0).kind = k at *
  generalize (tkT T 0).pos = ps at *
  clear ht hm
  go_enter Tryz.func68, Tryz.ntmps68
  go_wp2_with fail
  refine bodyPost_ret (v := .agg #[.int .i64 23, .string ⟨#[]⟩, .string ⟨#[]⟩, .bool false, .slice none 0 0, .bool false, .slice none 0 0, .int .i64 (ps : Int)]) (by simp [results, Tryz.results68, go_sem]) rfl (HX.out _ (by repeat (first | with_reducible exact gb_refl _ _ | with_reducible refine gb_drew ?_ | with_reducible refine gb_alloc ?_ _)))

set_option maxRecDepth 100000 in
set_option maxHeartbeats 8000000 in
theorem with17 (T : List Tok) (p : Option Addr) (c : Nat) (w : World) (hT : T.length ≤ 150000) (h0 : 0 < T.length) (ht : TAt w p T) :
    Calls Tryz.prog 68 #[.int .i64 17, .slice p T.length c] w (ExPost0 (nodeE 17 (tkT T) []) w) := by
  obtain ⟨g, off, rfl, hgl, t0, t1, t2, t3⟩ := tok_cells ht (i := 0) h0
  rw [Nat.zero_mul, Nat.add_zero] at t0 t1 t2 t3
  have HX : Hid (∀ w', w.grownBy w' none → ExPost0 (nodeE 17 (tkT T) []) w (.returned (.agg #[.int .i64 4, .string ⟨#[]⟩, .string ⟨#[]⟩, .bool false, .slice none 0 0, .bool false, .slice none 0 0, .int .i64 ((tkT T 0).pos : Int)])) w') := Lib.hid (fun w' hg => ⟨hg, _, rfl, ex_plain (by decide), rfl⟩)
  obtain ⟨m, hm⟩ : ∃ m, T.length = m := ⟨_, rfl⟩
  rw [hm] at hT h0 ⊢
  have z0 : decide (0 < m) = true := decide_eq_true h0
  have z0' : decide ((0 : Int) < (m : Int)) = true := decide_eq_true (by omega)
  unfold strV at t1 t2
  generalize (⟨(tkT T 0).lead.toArray⟩ : ByteArray) = le at *
  generalize (⟨(tkT T 0).text.toArray⟩ : ByteArray) = te at *
  generalize (tkT T 0).kind = k at *
  generalize (tkT T 0).pos = ps at *
  clear ht hm
  go_enter Tryz.func68, Tryz.ntmps68
  go_wp2_with fail
  refine bodyPost_ret (v := .agg #[.int .i64 4, .string ⟨#[]⟩, .string ⟨#[]⟩, .bool false, .slice none 0 0, .bool false, .slice none 0 0, .int .i64 (ps : Int)]) (by simp [results, Tryz.results68, go_sem]) rfl (HX.out _ (by repeat (first | with_reducible exact gb_refl _ _ | with_reducible refine gb_drew ?_ | with_reducible refine gb_alloc ?_ _)))

set_option maxRecDepth 100000 in
set_option maxHeartbeats 8000000 in
theorem with14 (T : List Tok) (p : Option Addr) (c : Nat) (w : World) (hT : T.length ≤ 150000) (h0 : 0 < T.length) (ht : TAt w p T) :
    Calls Tryz.prog 68 #[.int .i64 14, .slice p T.length c] w (ExPost0 (nodeE 14 (tkT T) []) w) := by
  obtain ⟨g, off, rfl, hgl, t0, t1, t2, t3⟩ := tok_cells ht (i := 0) h0
  rw [Nat.zero_mul, Nat.add_zero] at t0 t1 t2 t3
  have HX : Hid (∀ w', w.grownBy w' none → ExPost0 (nodeE 14 (tkT T) []) w (.returned (.agg #[.int .i64 3, .string ⟨(tkT T 0).text.toArray⟩, .string ⟨#[]⟩, .bool false, .slice none 0 0, .bool false, .slice none 0 0, .int .i64 ((tkT T 0).pos : Int)])) w') := Lib.hid (fun w' hg => ⟨hg, _, rfl, ex_plain (by decide), rfl⟩)
  obtain ⟨m, hm⟩ : ∃ m, T.length = m := ⟨_, rfl⟩
  rw [hm] at hT h0 ⊢
  have z0 : decide (0 < m) = true := decide_eq_true h0
  have z0' : decide ((0 : Int) < (m : Int)) = true := decide_eq_true (by omega)
  unfold strV at t1 t2
  generalize (⟨(tkT T 0).lead.toArray⟩ : ByteArray) = le at *
  generalize (⟨(tkT T 0).text.toArray⟩ : ByteArray) = te at *
  generalize (tkT T 0).kind = k at *
  generalize (tkT T 0).pos = ps at *
  clear ht hm
  go_enter Tryz.func68, Tryz.ntmps68
  go_wp2_with fail
  go_region
  all_goals
    go_wp2_with fail
    refine bodyPost_ret (v := .agg #[.int .i64 3, .string te, .string ⟨#[]⟩, .bool false, .slice none 0 0, .bool false, .slice none 0 0, .int .i64 (ps : Int)]) (by simp [results, Tryz.results68, go_sem]) rfl (HX.out _ (by repeat (first | with_reducible exact gb_refl _ _ | with_reducible refine gb_drew ?_ | with_reducible refine gb_alloc ?_ _)))

set_option maxRecDepth 100000 in
set_option maxHeartbeats 8000000 in
theorem with16 (T : List Tok) (p : Option Addr) (c : Nat) (w : World) (hT : T.length ≤ 150000) (h0 : 0 < T.length) (ht : TAt w p T) :
    Calls Tryz.prog 68 #[.int .i64 16, .slice p T.length c] w (ExPost0 (nodeE 16 (tkT T) []) w) := by
  obtain ⟨g, off, rfl, hgl, t0, t1, t2, t3⟩ := tok_cells ht (i := 0) h0
  rw [Nat.zero_mul, Nat.add_zero] at t0 t1 t2 t3
  have HX : Hid (∀ w', w.grownBy w' none → ExPost0 (nodeE 16 (tkT T) []) w (.returned (.agg #[.int .i64 2, .string ⟨#[]⟩, .string ⟨#[]⟩, .bool false, .slice none 0 0, .bool (decide ((tkT T 0).text = [116, 114, 117, 101])), .slice none 0 0, .int .i64 ((tkT T 0).pos : Int)])) w') := Lib.hid (fun w' hg => ⟨hg, _, rfl, ex_plain (by decide), rfl⟩)
  obtain ⟨m, hm⟩ : ∃ m, T.length = m := ⟨_, rfl⟩
  rw [hm] at hT h0 ⊢
  have z0 : decide (0 < m) = true := decide_eq_true h0
  have z0' : decide ((0 : Int) < (m : Int)) = true := decide_eq_true (by omega)
  have e1 : ((⟨(tkT T 0).text.toArray⟩ : ByteArray).toList == [116, 114, 117, 101]) = decide ((tkT T 0).text = [116, 114, 117, 101]) := by
    rw [ByteArray.toList_eq]
    show ((tkT T 0).text == [116, 114, 117, 101]) = _
    by_cases h : (tkT T 0).text = [116, 114, 117, 101]
    · rw [decide_eq_true h]; simpa using h
    · rw [decide_eq_false h]; simpa using h
  generalize decide ((tkT T 0).text = [116, 114, 117, 101]) = tv at *
  unfold strV at t1 t2
  generalize (⟨(tkT T 0).lead.toArray⟩ : ByteArray) = le at *
  generalize (⟨(tkT T 0).text.toArray⟩ : ByteArray) = te at *
  generalize (tkT T 0).kind = k at *
  generalize (tkT T 0).pos = ps at *
  clear ht hm
  go_enter Tryz.func68, Tryz.ntmps68
  go_wp2_with fail
  go_region
  all_goals
    go_wp2_with fail
    refine bodyPost_ret (v := .agg #[.int .i64 2, .string ⟨#[]⟩, .string ⟨#[]⟩, .bool false, .slice none 0 0, .bool tv, .slice none 0 0, .int .i64 (ps : Int)]) (by simp [results, Tryz.results68, go_sem]) rfl (HX.out _ (by repeat (first | with_reducible exact gb_refl _ _ | with_reducible refine gb_drew ?_ | with_reducible refine gb_alloc ?_ _)))
end Go.Proofs.YtoahgeleenpnjaaGreatDoor
