/- Lemmas. -/
import Derived.Test.YtijpelkjeejjfaaGreatDoorP4
import Derived.Test.YtijpelkjeejjfaaGreatDoorP8
set_option linter.unusedVariables false
set_option linter.unusedSimpArgs false
namespace Go.Proofs.YtijpelkjeejjfaaGreatDoor

mutual
def kOk : Tr → Prop
  | .lf _ => True
  | .nd k l => 1 ≤ k ∧ k ≤ 18 ∧ kOks l
def kOks : List Tr → Prop
  | [] => True
  | t :: l => kOk t ∧ kOks l
end
theorem kOks_append {a b : List Tr} (h1 : kOks a) (h2 : kOks b) : kOks (a ++ b) := by
  induction a with
  | nil => exact h2
  | cons t a ih => simp only [List.cons_append, kOks] at h1 ⊢; exact ⟨h1.1, ih h1.2⟩
theorem kOks_nd {k : Nat} {l : List Tr} (h1 : 1 ≤ k) (h2 : k ≤ 18) (h : kOks l) : kOks [.nd k l] := by simp only [kOks, kOk]; exact ⟨⟨h1, h2, h⟩, trivial⟩
theorem kOks_nil : kOks [] := by simp [kOks]
abbrev KO (r : RT) : Prop := kOks r.1
section
variable (T : List Tok)
theorem leaf_ko (s : St) : KO (leafT T s) := by simp [KO, leafT, kOks, kOk]
theorem must_ko (w : List UInt8) (s : St) : KO (mustT T w s) := by unfold mustT; split; exact leaf_ko T s; exact kOks_nil
theorem kind_ko (k : Nat) (s : St) : KO (kindT T k s) := by unfold kindT; split; exact leaf_ko T s; exact kOks_nil
theorem row_ko {c : St → Bool} {sub : St → RT} (hs : ∀ s, KO (sub s)) : ∀ f r, KO r → KO (rwT T c sub f r)
  | 0, r, h => h
  | f + 1, r, h => by
    unfold rwT
    split
    · exact row_ko hs f _ (kOks_nd (by decide) (by decide) (kOks_append (kOks_append h (leaf_ko T _)) (hs _)))
    · exact h
theorem parts_ko {sub : St → RT} (hs : ∀ s, KO (sub s)) : ∀ f k r, KO r → KO (partsT T sub f k r)
  | 0, k, r, h => h
  | f + 1, k, r, h => by
    unfold partsT
    split
    · exact parts_ko hs f _ _ (kOks_append (kOks_append h (leaf_ko T _)) (hs _))
    · exact h
structure NxO (nt : NxT) : Prop where
  expr : ∀ s, KO (nt.expr s)
  formula : ∀ s, KO (nt.formula s)
  nots : ∀ s, KO (nt.nots s)
  factor : ∀ s, KO (nt.factor s)
end
section
variable (T : List Tok) (D n : Nat) {nt : NxT} (h : NxO nt)
include h
theorem args_ko (s : St) : KO (argsT T nt s) := parts_ko T h.expr _ _ _ (h.expr s)
omit h in
theorem nameB_ko {a : RT} (ha : KO a) : KO (nameBT T a) := by
  unfold nameBT; split
  · exact kOks_append (kOks_append ha (leaf_ko T _)) (kind_ko T _ _)
  · exact ha
omit h in
theorem nameC_ko {a : RT} (ha : KO a) : KO (nameCT T a) := kOks_append ha (must_ko T _ _)
theorem nameD_ko {a : RT} (ha : KO a) : KO (nameDT T nt a) := by
  unfold nameDT; split
  · exact ha
  · exact kOks_append ha (args_ko T h _)
omit h in
theorem nameE_ko {a : RT} (ha : KO a) : KO (nameET T a) := kOks_nd (by decide) (by decide) (kOks_append ha (must_ko T _ _))
theorem name_ko (s : St) : KO (nameT T nt s) := by
  unfold nameT; split
  · exact kOks_nd (by decide) (by decide) (leaf_ko T _)
  · exact nameE_ko T (nameD_ko T h (nameC_ko T (nameB_ko T (leaf_ko T _))))
theorem atom_ko (s : St) : KO (atomT T nt s) := by
  unfold atomT
  split
  · exact kOks_nil
  split
  · exact kOks_nd (by decide) (by decide) (leaf_ko T _)
  split
  · exact kOks_nd (by decide) (by decide) (leaf_ko T _)
  split
  · exact kOks_nd (by decide) (by decide) (leaf_ko T _)
  split
  · exact kOks_nd (by decide) (by decide) (kOks_append (kOks_append (leaf_ko T _) (h.expr _)) (must_ko T _ _))
  split
  · exact name_ko T h s
  · exact kOks_nil
omit h in
theorem sign_ko {sub : St → RT} (hs : ∀ s, KO (sub s)) (s : St) : KO (signT T D n sub s) := by
  unfold signT
  simp only []
  split
  · exact kOks_nil
  · exact kOks_nd (by decide) (by decide) (kOks_append (leaf_ko T _) (hs _))
theorem factor_ko (s : St) : KO (factorT T D n nt s) := by
  unfold factorT; split
  · exact sign_ko T D n h.factor s
  · exact atom_ko T h s
theorem product_ko (s : St) : KO (productT T D n nt s) := row_ko T (factor_ko T D n h) _ _ (factor_ko T D n h s)
theorem sum_ko (s : St) : KO (sumT T D n nt s) := row_ko T (product_ko T D n h) _ _ (product_ko T D n h s)
theorem not_ko (s : St) : KO (notT T D n nt s) := by
  unfold notT
  simp only []
  split
  · exact sign_ko T D n h.nots s
  split
  · exact kOks_nd (by decide) (by decide) (kOks_append (kOks_append (sum_ko T D n h s) (leaf_ko T _)) (sum_ko T D n h _))
  · exact sum_ko T D n h s
theorem and_ko (s : St) : KO (andT T D n nt s) := row_ko T (not_ko T D n h) _ _ (not_ko T D n h s)
theorem or_ko (s : St) : KO (orT T D n nt s) := row_ko T (and_ko T D n h) _ _ (and_ko T D n h s)
theorem formula_ko (s : St) : KO (formulaT T D n nt s) := by
  unfold formulaT
  simp only []
  split
  · split
    · exact kOks_nil
    · exact kOks_nd (by decide) (by decide) (kOks_append (kOks_append (or_ko T D n h s) (leaf_ko T _)) (h.formula _))
  · exact or_ko T D n h s
theorem let_ko (s : St) : KO (letT T nt s) :=
  kOks_nd (by decide) (by decide) (kOks_append (kOks_append (kOks_append (kOks_append (kOks_append (leaf_ko T _) (kind_ko T _ _)) (must_ko T _ _)) (h.expr _)) (must_ko T _ _)) (h.expr _))
theorem if_ko (s : St) : KO (ifT T nt s) :=
  kOks_nd (by decide) (by decide) (kOks_append (kOks_append (kOks_append (kOks_append (kOks_append (leaf_ko T _) (h.expr _)) (must_ko T _ _)) (h.expr _)) (must_ko T _ _)) (h.expr _))
theorem assert_ko (s : St) : KO (assertT T nt s) :=
  kOks_nd (by decide) (by decide) (kOks_append (kOks_append (kOks_append (leaf_ko T _) (h.expr _)) (must_ko T _ _)) (h.expr _))
theorem expr_ko (s : St) : KO (exprT T D n nt s) := by
  unfold exprT
  simp only []
  split
  · exact kOks_nil
  split
  · exact let_ko T h _
  split
  · exact if_ko T h _
  split
  · exact assert_ko T h _
  · exact formula_ko T D n h _
end
theorem nx_ko (T : List Tok) (D : Nat) : ∀ d, NxO (nxT T D d)
  | 0 => ⟨fun s => kOks_nil, fun s => kOks_nil, fun s => kOks_nil, fun s => kOks_nil⟩
  | d + 1 => ⟨expr_ko T D _ (nx_ko T D d), formula_ko T D _ (nx_ko T D d), not_ko T D _ (nx_ko T D d), factor_ko T D _ (nx_ko T D d)⟩
section
variable (T : List Tok) {et : St → RT} (h : ∀ s, KO (et s))
include h
omit h in
theorem typB_ko {a : RT} (ha : KO a) : KO (typBT T a) := by
  unfold typBT; split
  · exact kOks_append ha (kOks_nd (by decide) (by decide) (leaf_ko T _))
  · exact ha
theorem typC_ko {a : RT} (ha : KO a) : KO (typCT T et a) := by
  unfold typCT; split
  · exact kOks_append ha (kOks_nd (by decide) (by decide) (kOks_append (kOks_append (leaf_ko T _) (h _)) (must_ko T _ _)))
  · exact ha
theorem typed_ko (s : St) : KO (typedT T et s) := typC_ko T h (typB_ko T (must_ko T _ s))
theorem par_ko (s : St) : KO (parT T et s) := kOks_nd (by decide) (by decide) (kOks_append (kind_ko T _ s) (typed_ko T h _))
theorem params_ko (s : St) : KO (paramsT T et s) := parts_ko T (par_ko T h) _ _ _ (par_ko T h s)
omit h in
theorem defA_ko (s : St) : KO (defAT T s) := by unfold defAT; split; exact leaf_ko T s; exact kOks_nil
omit h in
theorem defB_ko {a : RT} (ha : KO a) : KO (defBT T a) := kOks_append ha (kOks_append (kOks_append (must_ko T _ _) (kind_ko T _ _)) (must_ko T _ _))
theorem defC_ko {a : RT} (ha : KO a) : KO (defCT T et a) := by
  unfold defCT; split
  · exact kOks_append ha (params_ko T h _)
  · exact ha
theorem defD_ko {a : RT} (ha : KO a) : KO (defDT T et a) :=
  kOks_append (kOks_append (kOks_append ha (kOks_append (kOks_append (must_ko T _ _) (typed_ko T h _)) (must_ko T _ _))) (h _)) (must_ko T _ _)
theorem def_ko (s : St) : KO (defT T et s) := kOks_nd (by decide) (by decide) (defD_ko T h (defC_ko T h (defB_ko T (defA_ko T s))))
omit h in
theorem imp_ko {r : RT} (hr : KO r) : KO (impStepT T r) := kOks_append hr (kOks_nd (by decide) (by decide) (kOks_append (kOks_append (leaf_ko T _) (kind_ko T _ _)) (must_ko T _ _)))
omit h in
theorem many_ko {c : St → Bool} {step : RT → RT} {most : Nat} (hs : ∀ r, KO r → KO (step r)) : ∀ f k r, KO r → KO (manyT T c step most f k r).2
  | 0, k, r, hr => hr
  | f + 1, k, r, hr => by
    unfold manyT
    split
    · split
      · exact kOks_nil
      · exact many_ko hs f _ _ (hs r hr)
    · exact hr
theorem program_ko (s : St) : KO (programT T et s) := by
  have h1 : KO (importsT T ([], s)).2 := many_ko T (fun r hr => imp_ko T hr) _ _ _ kOks_nil
  have h2 : KO (defsT T et (importsT T ([], s)).2).2 := many_ko T (fun r hr => kOks_append hr (def_ko T h _)) _ _ _ h1
  unfold programT
  split
  · exact h1
  split
  · exact h2
  · exact kOks_append h2 (kind_ko T _ _)
theorem alone_ko (s : St) : KO (aloneT T et s) := kOks_append (h _) (kind_ko T _ _)
end
theorem tree_ko (T : List Tok) (D : Nat) (f : Bool) : KO (treeT T D f) := by
  unfold treeT
  split
  · exact alone_ko T (nx_ko T D D).expr _
  · exact program_ko T (nx_ko T D D).expr _
end Go.Proofs.YtijpelkjeejjfaaGreatDoor
namespace Go.Proofs.YtijpelkjeejjfaaGreatDoor
open Go.RowKit

def toI (t : Tok) : TokI := ⟨(t.kind : Int), t.lead, t.text, (t.pos : Int)⟩

def BoolOf (p : Prop) (w : World) (e : Ending) (w' : World) : Prop := w.grownBy w' none ∧ ∃ b : Bool, e = .returned (.bool b) ∧ (b = true ↔ p)
theorem ret_false {p : Prop} {w w' : World} (hg : w.grownBy w' none) (h : ¬ p) : BoolOf p w (.returned (.bool false)) w' := ⟨hg, false, rfl, by simp [h]⟩

theorem froz_of {W : World} {r : Nat} {cs : Array Value} {T : TypeId} (h : W.heap[r]? = some (.cells cs T (0, 0))) (o : Nat) : W.frozen? ⟨r, o, none⟩ = false := by simp [World.frozen?, h]
theorem fr_cells {S : Nat → Prop} {b : Nat} (hb : S b) : ∀ (vs : List Value) (o : Nat) (w w0 : World), Fr2 S w0 w → Fr2 S w0 (w.setCells b o vs)
  | [], o, w, w0, h => h
  | v :: r, o, w, w0, h => fr_cells hb r (o + 1) _ w0 (h.setCell hb v)
/-- A fresh block of cells, all laid anew. -/
theorem fresh_cells (w : World) (zs cs : Array Value) (T : TypeId) (hs : zs.size = cs.size) :
    (w.alloc (.cells zs T)).there w.heap.size 0 cs.size ∧ w.grownBy ((w.alloc (.cells zs T)).setCells w.heap.size 0 cs.toList) none ∧ ∀ (j : Nat) (v : Value), cs.toList[j]? = some v → ((w.alloc (.cells zs T)).setCells w.heap.size 0 cs.toList).cell? ⟨w.heap.size, j, none⟩ = some v := by
  have hbk := heap_alloc_new w (.cells zs T)
  have hc : ∀ j (hj : j < cs.size), ((w.alloc (.cells zs T)).cell? ⟨w.heap.size, j, none⟩).isSome = true := fun j hj => by
    rw [cell_of_row _ w.heap.size j _ _ (0, 0) hbk, Array.getElem?_eq_getElem (by omega)]; rfl
  refine ⟨fun j hj => ⟨by rw [Nat.zero_add]; exact hc j hj, froz_of hbk _⟩, ?_, fun j v hj => ?_⟩
  · refine below_gb ?_
    have h1 := fr_cells (S := fun k => w.heap.size ≤ k) (Nat.le_refl _) cs.toList 0 _ w (Fr2.none (World.grownBy_alloc w (.cells zs T) none))
    exact h1.below (Nat.le_refl _) (fun k hk => hk)
  · obtain ⟨hj1, rfl⟩ := List.getElem?_eq_some_iff.1 hj
    have := World.cell?_setCells_in w.heap.size cs.toList 0 (w.alloc (.cells zs T)) (fun i hi => by rw [Nat.zero_add]; exact hc i (by simpa using hi)) j hj1
    rw [Nat.zero_add] at this
    exact this
set_option maxRecDepth 100000 in
set_option maxHeartbeats 16000000 in
theorem rlevel_c (op : Int) (h1 : 1 ≤ op) (h2 : op ≤ 24) (w : World) : Calls Tryz.prog 34 #[.int .i64 op] w (NumPost (levS op) w) := by
  obtain ⟨n, rfl⟩ : ∃ n : Nat, op = n := ⟨op.toNat, by omega⟩
  obtain ⟨cs, hcs⟩ : ∃ cs : Array Value, #[Value.int .i64 0, .int .i64 9, .int .i64 9, .int .i64 9, .int .i64 9, .int .i64 8, .int .i64 4, .int .i64 6, .int .i64 6, .int .i64 7, .int .i64 7, .int .i64 7, .int .i64 5, .int .i64 5, .int .i64 5, .int .i64 5, .int .i64 5, .int .i64 5, .int .i64 3, .int .i64 2, .int .i64 1, .int .i64 0, .int .i64 0, .int .i64 0, .int .i64 9] = cs := ⟨_, rfl⟩
  have hsz : cs.size = 25 := by rw [← hcs]; rfl
  have hone : cs.all (·.oneCell') = true := by rw [← hcs]; kernel_rfl
  have hat : cs.toList[n]? = some (.int .i64 (levS n)) := by
    rw [← hcs]
    have : n = 1 ∨ n = 2 ∨ n = 3 ∨ n = 4 ∨ n = 5 ∨ n = 6 ∨ n = 7 ∨ n = 8 ∨ n = 9 ∨ n = 10 ∨ n = 11 ∨ n = 12 ∨ n = 13 ∨ n = 14 ∨ n = 15 ∨ n = 16 ∨ n = 17 ∨ n = 18 ∨ n = 19 ∨ n = 20 ∨ n = 21 ∨ n = 22 ∨ n = 23 ∨ n = 24 := by omega
    rcases this with rfl | rfl | rfl | rfl | rfl | rfl | rfl | rfl | rfl | rfl | rfl | rfl | rfl | rfl | rfl | rfl | rfl | rfl | rfl | rfl | rfl | rfl | rfl | rfl <;> rfl
  obtain ⟨l, hl⟩ : ∃ l : Nat, levS (n : Int) = l := ⟨_, rfl⟩
  rw [hl] at hat ⊢
  have HO := Lib.hid hone; have HS := Lib.hid hsz; have HA := Lib.hid hat
  clear hone hsz hat hl
  go_enter Tryz.func34, Tryz.ntmps34
  go_upto_region 1 with fail
  refine wp_region_lit ?_
  refine wpList_plain rfl (fun K hK => ?_)
  go_simp
  refine hK _ _ ?_
  clear hK
  refine wpList_plain rfl (fun K hK => ?_)
  go_simp
  refine hK _ _ ?_
  clear hK
  generalize hzs : #[Value.int .i64 0, .int .i64 0, .int .i64 0, .int .i64 0, .int .i64 0, .int .i64 0, .int .i64 0, .int .i64 0, .int .i64 0, .int .i64 0, .int .i64 0, .int .i64 0, .int .i64 0, .int .i64 0, .int .i64 0, .int .i64 0, .int .i64 0, .int .i64 0, .int .i64 0, .int .i64 0, .int .i64 0, .int .i64 0, .int .i64 0, .int .i64 0, .int .i64 0] = zs
  have hzz : zs.size = cs.size := by rw [HS.out, ← hzs]; rfl
  obtain ⟨hth, hg, hcl⟩ := fresh_cells w zs cs 122 hzz
  have hc := hcl n _ HA.out
  clear hzs hcs hcl hzz
  refine wpList_store_mid rfl 122 (Operand.tmp 3) (Operand.tmp 4) rfl w.heap.size 0 cs rfl rfl hth (by rw [HS.out]; kernel_rfl) HO.out ?_
  clear hth
  generalize (w.alloc (.cells zs 122)).setCells w.heap.size 0 cs.toList = W at *
  have HG := Lib.hid hg
  clear hg
  have x1 : (0 : Int) ≤ (n : Int) := by omega
  have x2 : (n : Int) < 25 := by omega
  have x3 : decide (n < 25) = true := decide_eq_true (by omega)
  go_wp2_with fail
  go_ret
  exact ⟨rfl, HG.out⟩
end Go.Proofs.YtijpelkjeejjfaaGreatDoor
