/- A box of seven cells; a node's kids and their tokens; the end of the document's expressions. -/
import Derived.Deep.RegionHeld3
import Derived.Test.YtdilncefhfbgeaaGreatDoorM39
import Derived.Test.YtdilncefhfbgeaaGreatDoorM38
import Derived.Test.YtdilncefhfbgeaaGreatDoorM17
set_option linter.unusedVariables false
set_option linter.unusedSimpArgs false
namespace Go.Proofs.YtdilncefhfbgeaaGreatDoor
open Go.RowKit

theorem put7c {W : World} {B : Nat} {T : TypeId} {x0 x1 x2 x3 x4 x5 x6 : Value} (h0 : W.heap[B]? = some (.cells #[x0, x1, x2, x3, x4, x5, x6] T (0, 0))) (a b c d e f g : Value) : (((((((W.setCell ⟨B, 0, none⟩ a).setCell ⟨B, 1, none⟩ b).setCell ⟨B, 2, none⟩ c).setCell ⟨B, 3, none⟩ d).setCell ⟨B, 4, none⟩ e).setCell ⟨B, 5, none⟩ f).setCell ⟨B, 6, none⟩ g).heap[B]? = some (.cells #[a, b, c, d, e, f, g] T (0, 0)) ∧ Fr2 (Self B) W (((((((W.setCell ⟨B, 0, none⟩ a).setCell ⟨B, 1, none⟩ b).setCell ⟨B, 2, none⟩ c).setCell ⟨B, 3, none⟩ d).setCell ⟨B, 4, none⟩ e).setCell ⟨B, 5, none⟩ f).setCell ⟨B, 6, none⟩ g) := by
  have h1 : (W.setCell ⟨B, 0, none⟩ a).heap[B]? = some (.cells #[a, x1, x2, x3, x4, x5, x6] T (0, 0)) := set_cells (i := 0) (u := a) h0
  have h2 : ((W.setCell ⟨B, 0, none⟩ a).setCell ⟨B, 1, none⟩ b).heap[B]? = some (.cells #[a, b, x2, x3, x4, x5, x6] T (0, 0)) := set_cells (i := 1) (u := b) h1
  have h3 : (((W.setCell ⟨B, 0, none⟩ a).setCell ⟨B, 1, none⟩ b).setCell ⟨B, 2, none⟩ c).heap[B]? = some (.cells #[a, b, c, x3, x4, x5, x6] T (0, 0)) := set_cells (i := 2) (u := c) h2
  have h4 : ((((W.setCell ⟨B, 0, none⟩ a).setCell ⟨B, 1, none⟩ b).setCell ⟨B, 2, none⟩ c).setCell ⟨B, 3, none⟩ d).heap[B]? = some (.cells #[a, b, c, d, x4, x5, x6] T (0, 0)) := set_cells (i := 3) (u := d) h3
  have h5 : (((((W.setCell ⟨B, 0, none⟩ a).setCell ⟨B, 1, none⟩ b).setCell ⟨B, 2, none⟩ c).setCell ⟨B, 3, none⟩ d).setCell ⟨B, 4, none⟩ e).heap[B]? = some (.cells #[a, b, c, d, e, x5, x6] T (0, 0)) := set_cells (i := 4) (u := e) h4
  have h6 : ((((((W.setCell ⟨B, 0, none⟩ a).setCell ⟨B, 1, none⟩ b).setCell ⟨B, 2, none⟩ c).setCell ⟨B, 3, none⟩ d).setCell ⟨B, 4, none⟩ e).setCell ⟨B, 5, none⟩ f).heap[B]? = some (.cells #[a, b, c, d, e, f, x6] T (0, 0)) := set_cells (i := 5) (u := f) h5
  have h7 : (((((((W.setCell ⟨B, 0, none⟩ a).setCell ⟨B, 1, none⟩ b).setCell ⟨B, 2, none⟩ c).setCell ⟨B, 3, none⟩ d).setCell ⟨B, 4, none⟩ e).setCell ⟨B, 5, none⟩ f).setCell ⟨B, 6, none⟩ g).heap[B]? = some (.cells #[a, b, c, d, e, f, g] T (0, 0)) := set_cells (i := 6) (u := g) h6
  exact ⟨h7, (Fr2.setCell (Fr2.setCell (Fr2.setCell (Fr2.setCell (Fr2.setCell (Fr2.setCell (Fr2.setCell (Fr2.refl (Self B) W) (g := B) (j := 0) (mine B) a) (g := B) (j := 1) (mine B) b) (g := B) (j := 2) (mine B) c) (g := B) (j := 3) (mine B) d) (g := B) (j := 4) (mine B) e) (g := B) (j := 5) (mine B) f) (g := B) (j := 6) (mine B) g)⟩
theorem cells7c {w : World} {r : Nat} {a b c d e f g : Value} {T : TypeId} (h0 : w.heap[r]? = some (.cells #[a, b, c, d, e, f, g] T (0, 0))) : w.cell? ⟨r, 0, none⟩ = some a ∧ w.cell? ⟨r, 1, none⟩ = some b ∧ w.cell? ⟨r, 2, none⟩ = some c ∧ w.cell? ⟨r, 3, none⟩ = some d ∧ w.cell? ⟨r, 4, none⟩ = some e ∧ w.cell? ⟨r, 5, none⟩ = some f ∧ w.cell? ⟨r, 6, none⟩ = some g ∧ ∀ o, w.frozen? ⟨r, o, none⟩ = false :=
  ⟨by rw [cell_of_row w r 0 _ T (0, 0) h0]; rfl, by rw [cell_of_row w r 1 _ T (0, 0) h0]; rfl, by rw [cell_of_row w r 2 _ T (0, 0) h0]; rfl, by rw [cell_of_row w r 3 _ T (0, 0) h0]; rfl, by rw [cell_of_row w r 4 _ T (0, 0) h0]; rfl, by rw [cell_of_row w r 5 _ T (0, 0) h0]; rfl, by rw [cell_of_row w r 6 _ T (0, 0) h0]; rfl, fun o => by simp [World.frozen?, h0]⟩

theorem infoRE : (Tryz.prog.info? 68).map (fun i => (i.zero, i.size, i.bytes)) = some (some (.agg #[.int .i64 0, .string ⟨#[]⟩, .string ⟨#[]⟩, .string ⟨#[]⟩, .bool false, .slice none 0 0, .int .i64 0]), 7, 96) := by kernel_rfl
theorem RAt.seven {F : Nat → Prop} {w : World} {x : Ex} {q : List Value} (h : RAt F w x q) : ∃ a0 a1 a2 a3 a4 a5 a6, q = [a0, a1, a2, a3, a4, a5, a6] := by
  cases x with
  | mk op nm md nu ys ks ps =>
    simp only [RAt] at h
    obtain ⟨pk, ck, rows, rfl, -⟩ := h
    exact ⟨_, _, _, _, _, _, _, rfl⟩
theorem RAt.plain {F : Nat → Prop} {w : World} {op ps : Nat} {ks : List Ex} {q : List Value} (h : RAt F w (.mk op [] [] [] false ks ps) q) : ∃ pk nk ck, q = [.int .i64 (op : Int), .string ⟨#[]⟩, .string ⟨#[]⟩, .string ⟨#[]⟩, .bool false, .slice pk nk ck, .int .i64 (ps : Int)] ∧
    ∀ nm md : List UInt8, RAt F w (.mk op nm md [] false ks ps) [.int .i64 (op : Int), .string ⟨nm.toArray⟩, .string ⟨md.toArray⟩, .string ⟨#[]⟩, .bool false, .slice pk nk ck, .int .i64 (ps : Int)] := by
  simp only [RAt] at h
  obtain ⟨pk, ck, rows, rfl, h1, h2, h3⟩ := h
  exact ⟨pk, ks.length, ck, rfl, fun nm md => by simp only [RAt]; exact ⟨pk, ck, rows, rfl, h1, h2, h3⟩⟩
theorem RAt.none_ {F : Nat → Prop} {w : World} (op ps : Nat) (nm nu : List UInt8) (ys : Bool) : RAt F w (.mk op nm [] nu ys [] ps) [.int .i64 (op : Int), .string ⟨nm.toArray⟩, .string ⟨#[]⟩, .string ⟨nu.toArray⟩, .bool ys, .slice none 0 0, .int .i64 (ps : Int)] := by
  simp only [RAt]
  exact ⟨none, 0, [], rfl, GAt.nil, by simp [LsR], fun h => absurd rfl h⟩

def RExPost (x : Ex) (w : World) (e : Ending) (w' : World) : Prop := w.grownBy w' none ∧ ∃ q, e = .returned (.agg q.toArray) ∧ RAt (fun k => w.heap.size ≤ k) w' x q
/-- What is known of Expr where made is called: of all smaller trees. -/
def RIH (T : List Tok) (N : List Nd) (K : Nat → Option Addr × Nat) (pt pn : Option Addr) (ct cn m : Nat) : Prop :=
  ∀ (t : Tr) (k : Nat) (w : World), szR t ≤ m → GoodE T N (k : Int) t → ToksAt w pt (T.map toI) → NodesAt w pn N K →
    Calls Tryz.prog 28 #[.agg #[.slice pt T.length ct, .slice pn N.length cn], .int .i64 (k : Int)] w (RExPost (axT T t) w)

/-- Seven cells stored where the result lies. -/
theorem rex_put {w w4 : World} {b1 : Nat} {T : TypeId} {x0 x1 x2 x3 x4 x5 x6 a b c d e f g : Value} {F : Nat → Prop} {x : Ex} (hgw : w.grownBy w4 none) (hb : w.heap.size ≤ b1) (hB : w4.heap[b1]? = some (.cells #[x0, x1, x2, x3, x4, x5, x6] T (0, 0))) (hX : RAt F w4 x [a, b, c, d, e, f, g]) (hF : ∀ k, F k → w.heap.size ≤ k ∧ k ≠ b1) :
    RExPost x w (.returned (.agg #[a, b, c, d, e, f, g])) (((((((w4.setCell ⟨b1, 0, none⟩ a).setCell ⟨b1, 1, none⟩ b).setCell ⟨b1, 2, none⟩ c).setCell ⟨b1, 3, none⟩ d).setCell ⟨b1, 4, none⟩ e).setCell ⟨b1, 5, none⟩ f).setCell ⟨b1, 6, none⟩ g) := by
  obtain ⟨hp, hf⟩ := put7c hB a b c d e f g
  refine ⟨Fr2.after hgw hf (fun j hj => by have e : j = b1 := hj; omega), [a, b, c, d, e, f, g], rfl, ?_⟩
  exact RAt.mono (fun k hk => (hF k hk).1) (RAt.same hf (fun k hk e => (hF k hk).2 e) hX)

/-- What leaf answers: a token's kind, what leads it, its text, its place. -/
def LfPost (ak : Nat) (y1 y2 : ByteArray) (ap : Nat) (w : World) (e : Ending) (w' : World) : Prop := e = .returned (.agg #[.int .i64 (ak : Int), .string y1, .string y2, .int .i64 (ap : Int)]) ∧ w.grownBy w' none
theorem leaf_kid {T : List Tok} {N : List Nd} {K : Nat → Option Addr × Nat} {pt pn : Option Addr} {ct cn : Nat} (hT : T.length ≤ 40000) (hN : N.length ≤ 150000) {n j i : Nat} {ks : List Int} {l : List Tr} (hk : KT N n ks l) (hj : l[j]? = some (.lf i)) (hi : i < T.length) :
    ∃ (k ak : Nat) (y1 y2 : ByteArray) (ap : Nat), ks[j]? = some (k : Int) ∧ y2 = ⟨(tkT T i).text.toArray⟩ ∧ ap = (tkT T i).pos ∧ ∀ W, ToksAt W pt (T.map toI) → NodesAt W pn N K → Calls Tryz.prog 52 #[.agg #[.slice pt T.length ct, .slice pn N.length cn], .int .i64 (k : Int)] W (LfPost ak y1 y2 ap W) := by
  obtain ⟨k, hk1, hta, -⟩ := hk.2 j _ hj
  obtain ⟨n', hn', hx⟩ := hta.lf
  have hn' : k = n' := by omega
  subst hn'
  refine ⟨k, (tkT T i).kind, ⟨(tkT T i).lead.toArray⟩, _, _, hk1, rfl, rfl, fun W h1 h2 => ?_⟩
  have h := rleaf_c (T.map toI) N K pt pn ct cn k _ W h1 h2 hx (fun _ => ⟨by simp, by simpa using hi⟩) (by rw [List.length_map]; omega)
  rw [List.length_map] at h
  have he : leafV (T.map toI) ⟨19, (i : Int), []⟩ = toI (tkT T i) := by
    unfold leafV tkT
    rw [if_pos rfl]
    simp only [Int.toNat_natCast, List.getElem?_map, List.getElem?_eq_getElem hi]
    rfl
  rw [he] at h
  exact h
theorem leaf_nd {T : List Tok} {N : List Nd} {K : Nat → Option Addr × Nat} {pt pn : Option Addr} {ct cn : Nat} (hT : T.length ≤ 40000) (hN : N.length ≤ 150000) {n j m : Nat} {ks : List Int} {l q : List Tr} (hk : KT N n ks l) (hj : l[j]? = some (.nd m q)) (hm : m ≠ 19) :
    ∃ (k ak : Nat) (y1 y2 : ByteArray) (ap : Nat), ks[j]? = some (k : Int) ∧ ∀ W, ToksAt W pt (T.map toI) → NodesAt W pn N K → Calls Tryz.prog 52 #[.agg #[.slice pt T.length ct, .slice pn N.length cn], .int .i64 (k : Int)] W (LfPost ak y1 y2 ap W) := by
  obtain ⟨k, hk1, hta, -⟩ := hk.2 j _ hj
  obtain ⟨n', ks', hn', hx, -⟩ := hta.nd
  have hn' : k = n' := by omega
  subst hn'
  refine ⟨k, 0, ⟨#[]⟩, ⟨#[]⟩, 0, hk1, fun W h1 h2 => ?_⟩
  have h := rleaf_c (T.map toI) N K pt pn ct cn k _ W h1 h2 hx (fun e => absurd e (by show (m : Int) ≠ 19; omega)) (by rw [List.length_map]; omega)
  rw [List.length_map] at h
  have he : leafV (T.map toI) ⟨(m : Int), -1, ks'⟩ = noTok := by
    unfold leafV
    rw [if_neg (show ¬ (m : Int) = 19 by omega)]
  rw [he] at h
  exact h

theorem leaf_first {T : List Tok} {N : List Nd} {K : Nat → Option Addr × Nat} {pt pn : Option Addr} {ct cn : Nat} (hT : T.length ≤ 40000) (hN : N.length ≤ 150000) {n : Nat} {ks : List Int} {l : List Tr} (hk : KT N n ks l) (hko : kOks l) (hlv : ∀ z ∈ lvTs l, z < T.length) (h0 : 0 < l.length) :
    ∃ (k ak : Nat) (y1 y2 : ByteArray) (ap : Nat), ks[0]? = some (k : Int) ∧ (∀ i, l[0]? = some (.lf i) → y2 = ⟨(tkT T i).text.toArray⟩ ∧ ap = (tkT T i).pos) ∧ ∀ W, ToksAt W pt (T.map toI) → NodesAt W pn N K → Calls Tryz.prog 52 #[.agg #[.slice pt T.length ct, .slice pn N.length cn], .int .i64 (k : Int)] W (LfPost ak y1 y2 ap W) := by
  obtain ⟨t, ht⟩ : ∃ t, l[0]? = some t := ⟨l[0], List.getElem?_eq_getElem _⟩
  cases t with
  | lf i =>
    obtain ⟨k, ak, y1, y2, ap, h1, h2, h3, h4⟩ := leaf_kid (K := K) (pt := pt) (pn := pn) (ct := ct) (cn := cn) hT hN hk ht (hlv i (lvTs_get ht i (by simp [lvT])))
    refine ⟨k, ak, y1, y2, ap, h1, fun i' h => ?_, h4⟩
    rw [ht] at h
    injection h with h; injection h with h; subst h
    exact ⟨h2, h3⟩
  | nd m q =>
    have hm : m ≠ 19 := by have h := kOks_get hko ht; simp only [kOk] at h; omega
    obtain ⟨k, ak, y1, y2, ap, h1, h4⟩ := leaf_nd (K := K) (pt := pt) (pn := pn) (ct := ct) (cn := cn) hT hN hk ht hm
    refine ⟨k, ak, y1, y2, ap, h1, fun i' h => ?_, h4⟩
    rw [ht] at h
    injection h with h; cases h

theorem good_kids {T : List Tok} {N : List Nd} {l : List Tr} (hwe : WEs T l) (hko : kOks l) (hlv : ∀ i ∈ lvTs l, i < T.length) : ∀ t ∈ l, isN t = true → ∀ k : Int, TrAt N k t → GoodE T N k t := fun t ht hn k hk => by
  obtain ⟨j, hj⟩ := List.getElem?_of_mem ht
  exact ⟨hn, WEs_get hwe hj, kOks_get hko hj, fun i hi => hlv i (lvTs_get hj i hi), hk⟩

/-! ### What an expression is, kind by kind -/

section
variable (T : List Tok)
theorem ax7 (i j : Nat) (l : List Tr) : axT T (.nd 7 (.lf i :: .lf j :: l)) = .mk 22 (tkT T j).text [] [] false (axTs T (.lf i :: .lf j :: l)) (tkT T i).pos := by rw [axT, if_neg (by decide)]; simp [nodeE, ownL]
theorem ax8 (i : Nat) (l : List Tr) : axT T (.nd 8 (.lf i :: l)) = .mk 21 [] [] [] false (axTs T (.lf i :: l)) (tkT T i).pos := by rw [axT, if_neg (by decide)]; simp [nodeE, ownL]
theorem ax9 (i : Nat) (l : List Tr) : axT T (.nd 9 (.lf i :: l)) = .mk 23 [] [] [] false (axTs T (.lf i :: l)) (tkT T i).pos := by rw [axT, if_neg (by decide)]; simp [nodeE, ownL]
theorem ax10 (m j : Nat) (q l : List Tr) : axT T (.nd 10 (.nd m q :: .lf j :: l)) = .mk (binE (tkT T j).text) [] [] [] false (axTs T (.nd m q :: .lf j :: l)) (tkT T j).pos := by rw [axT, if_neg (by decide)]; simp [nodeE, ownL]
theorem ax11 (i : Nat) (l : List Tr) : axT T (.nd 11 (.lf i :: l)) = .mk (unE (tkT T i).text) [] [] [] false (axTs T (.lf i :: l)) (tkT T i).pos := by rw [axT, if_neg (by decide)]; simp [nodeE, ownL]
theorem ax13 (i j : Nat) (l : List Tr) (h : (tkT T j).text ≠ [46]) : axT T (.nd 13 (.lf i :: .lf j :: l)) = .mk 24 (tkT T i).text [] [] false (axTs T (.lf i :: .lf j :: l)) (tkT T i).pos := by rw [axT, if_neg (by decide)]; simp [nodeE, ownL, h]
theorem ax13m (i j m : Nat) (l : List Tr) (h : (tkT T j).text = [46]) : axT T (.nd 13 (.lf i :: .lf j :: .lf m :: l)) = .mk 24 (tkT T m).text (tkT T i).text [] false (axTs T (.lf i :: .lf j :: .lf m :: l)) (tkT T i).pos := by rw [axT, if_neg (by decide)]; simp [nodeE, ownL, h]
theorem ax14 (i : Nat) : axT T (.nd 14 [.lf i]) = .mk 3 (tkT T i).text [] [] false [] (tkT T i).pos := by rw [axT, if_neg (by decide)]; simp [nodeE, ownL, axTs, isN]
theorem ax15 (i : Nat) : axT T (.nd 15 [.lf i]) = .mk 1 [] [] (tkT T i).text false [] (tkT T i).pos := by rw [axT, if_neg (by decide)]; simp [nodeE, ownL, axTs, isN]
theorem ax16 (i : Nat) : axT T (.nd 16 [.lf i]) = .mk 2 [] [] [] (decide ((tkT T i).text = [116, 114, 117, 101])) [] (tkT T i).pos := by rw [axT, if_neg (by decide)]; simp [nodeE, ownL, axTs, isN]
theorem ax17 (i : Nat) : axT T (.nd 17 [.lf i]) = .mk 4 [] [] [] false [] (tkT T i).pos := by rw [axT, if_neg (by decide)]; simp [nodeE, ownL, axTs, isN]
end

theorem ax11n (T : List Tok) (i : Nat) (l : List Tr) (h : (tkT T i).text = [110, 111, 116]) : axT T (.nd 11 (.lf i :: l)) = .mk 6 [] [] [] false (axTs T (.lf i :: l)) (tkT T i).pos := by rw [ax11, h]; rfl
theorem ax11m (T : List Tok) (i : Nat) (l : List Tr) (h : (tkT T i).text = [45]) : axT T (.nd 11 (.lf i :: l)) = .mk 5 [] [] [] false (axTs T (.lf i :: l)) (tkT T i).pos := by rw [ax11, h]; rfl
theorem ax16t (T : List Tok) (i : Nat) (h : (tkT T i).text = [116, 114, 117, 101]) : axT T (.nd 16 [.lf i]) = .mk 2 [] [] [] true [] (tkT T i).pos := by rw [ax16, decide_eq_true h]
theorem ax16f (T : List Tok) (i : Nat) (h : (tkT T i).text ≠ [116, 114, 117, 101]) : axT T (.nd 16 [.lf i]) = .mk 2 [] [] [] false [] (tkT T i).pos := by rw [ax16, decide_eq_false h]
theorem RAt.form {F : Nat → Prop} {w : World} {x : Ex} {q : List Value} (h : RAt F w x q) : ∃ (op : Int) (a b c : ByteArray) (y : Bool) (p : Option Addr) (n cc : Nat) (ps : Int), q = [.int .i64 op, .string a, .string b, .string c, .bool y, .slice p n cc, .int .i64 ps] := by
  cases x with
  | mk op nm md nu ys ks ps =>
    simp only [RAt] at h
    obtain ⟨pk, ck, rows, rfl, -⟩ := h
    exact ⟨_, _, _, _, _, _, _, _, _, rfl⟩
theorem one0 (w : World) (A : Obj) : ∃ (W : World) (b0 : Nat), W = w.alloc A ∧ w.heap.size = b0 ∧ W.heap[b0]? = some A ∧ w.grownBy W none ∧ W.heap.size = b0 + 1 := ⟨_, _, rfl, rfl, heap_alloc_new w A, World.grownBy_alloc w A none, by simp⟩

theorem field_tok (a d : Int) (b c : ByteArray) (w : World) : (Instr.field 110 (.agg #[.int .i64 a, .string b, .string c, .int .i64 d]) 2).run Tryz.prog w = .ok (.string c) w := by kernel_rfl

theorem toks_fr {S : Nat → Prop} {w0 w w' : World} {p : Option Addr} {T : List TokI} (h0 : ToksAt w0 p T) (h : ToksAt w p T) (hf : Fr2 S w w') (hS : ∀ k, S k → w0.heap.size ≤ k) : ToksAt w' p T := GAt.keptS h hf (fun hn a ha e => by
  have h1 := GAt.blk h0 hn a ha
  have h2 := hS _ e
  omega)
theorem nodes_fr {S : Nat → Prop} {w0 w w' : World} {p : Option Addr} {N : List Nd} {K : Nat → Option Addr × Nat} (h0 : NodesAt w0 p N K) (h : NodesAt w p N K) (hf : Fr2 S w w') (hS : ∀ k, S k → w0.heap.size ≤ k) : NodesAt w' p N K := ⟨GAt.keptS h.1 hf (fun hn a ha e => by
  have h1 := GAt.blk h0.1 hn a ha
  have h2 := hS _ e
  omega), fun i x hx => VAt.keptS (h.2 i x hx) hf (fun hn a ha e => by
  rcases h0.2 i x hx with h9 | ⟨g, off, h9, hl, -⟩
  · exact absurd h9 hn
  · rw [ha] at h9; injection h9 with h9; subst h9; have h2 := hS _ e; exact absurd hl (Nat.not_lt.2 h2))⟩

theorem keep4 {w2 : World} {B g j : Nat} {v a b c d : Value} (h : w2.cell? ⟨g, j, none⟩ = some v) (hne : g ≠ B) : ((((w2.setCell ⟨B, 0, none⟩ a).setCell ⟨B, 1, none⟩ b).setCell ⟨B, 2, none⟩ c).setCell ⟨B, 3, none⟩ d).cell? ⟨g, j, none⟩ = some v := by
  rw [World.cell?_setCell_far _ _ _ _ (fun e => hne e.symm), World.cell?_setCell_far _ _ _ _ (fun e => hne e.symm), World.cell?_setCell_far _ _ _ _ (fun e => hne e.symm), World.cell?_setCell_far _ _ _ _ (fun e => hne e.symm)]
  exact h

theorem keep7 {w2 : World} {B gg j : Nat} {v a b c d e f g : Value} (h : w2.cell? ⟨gg, j, none⟩ = some v) (hne : gg ≠ B) : (((((((w2.setCell ⟨B, 0, none⟩ a).setCell ⟨B, 1, none⟩ b).setCell ⟨B, 2, none⟩ c).setCell ⟨B, 3, none⟩ d).setCell ⟨B, 4, none⟩ e).setCell ⟨B, 5, none⟩ f).setCell ⟨B, 6, none⟩ g).cell? ⟨gg, j, none⟩ = some v := by
  rw [World.cell?_setCell_far _ _ _ _ (fun e => hne e.symm), World.cell?_setCell_far _ _ _ _ (fun e => hne e.symm), World.cell?_setCell_far _ _ _ _ (fun e => hne e.symm), World.cell?_setCell_far _ _ _ _ (fun e => hne e.symm), World.cell?_setCell_far _ _ _ _ (fun e => hne e.symm), World.cell?_setCell_far _ _ _ _ (fun e => hne e.symm), World.cell?_setCell_far _ _ _ _ (fun e => hne e.symm)]
  exact h

/-- Where a token's box lies: laid before the call, or behind it. -/
def TokBox (W : World) (b2 : Nat) (ak : Nat) (y1 y2 : ByteArray) (ap : Nat) (t6 : Value) (wx : World) : Prop := ∃ b3, t6 = .pointer (some ⟨b3, 0, none⟩) ∧ wx.heap[b3]? = some (.cells #[.int .i64 (ak : Int), .string y1, .string y2, .int .i64 (ap : Int)] 110 (0, 0)) ∧ b2 < b3 ∧ W.grownBy wx none
theorem tok_new {W w2 : World} {b2 ak ap : Nat} {y1 y2 : ByteArray} (h : W.grownBy w2 none) (hs : b2 < w2.heap.size) : TokBox W b2 ak y1 y2 ap (.pointer (some ⟨w2.heap.size, 0, none⟩)) (w2.alloc (.cells #[.int .i64 (ak : Int), .string y1, .string y2, .int .i64 (ap : Int)] 110)) :=
  ⟨w2.heap.size, rfl, heap_alloc_new w2 _, hs, gb_alloc h _⟩
theorem tok_old {W w2 : World} {b b2 ak ap : Nat} {y1 y2 : ByteArray} {x0 x1 x2 x3 : Value} (h : W.grownBy w2 none) (hb : W.heap.size ≤ b) (hs : b2 < b) (hB : w2.heap[b]? = some (.cells #[x0, x1, x2, x3] 110 (0, 0))) : TokBox W b2 ak y1 y2 ap (.pointer (some ⟨b, 0, none⟩)) ((((w2.setCell ⟨b, 0, none⟩ (.int .i64 (ak : Int))).setCell ⟨b, 1, none⟩ (.string y1)).setCell ⟨b, 2, none⟩ (.string y2)).setCell ⟨b, 3, none⟩ (.int .i64 (ap : Int))) :=
  ⟨b, rfl, (put4c hB _ _ _ _).1, hs, Fr2.after h (put4c hB _ _ _ _).2 (fun j hj => by have e : j = b := hj; omega)⟩
end Go.Proofs.YtdilncefhfbgeaaGreatDoor
