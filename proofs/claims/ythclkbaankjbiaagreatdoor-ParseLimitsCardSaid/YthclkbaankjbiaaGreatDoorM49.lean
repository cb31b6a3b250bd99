/- The kinds of the nodes of the parser's trees. -/
import Derived.Test.YthclkbaankjbiaaGreatDoorM30
import Derived.Test.YthclkbaankjbiaaGreatDoorM31
import Derived.Test.YthclkbaankjbiaaGreatDoorUPeek
import Derived.Test.YthclkbaankjbiaaGreatDoorM7
import Derived.Test.YthclkbaankjbiaaGreatDoorM29
namespace Go.Proofs.YthclkbaankjbiaaGreatDoor

mutual
def kOk : Tr → Prop
  | .lf _ => True
  | .nd k l => 1 ≤ k ∧ k ≤ 18 ∧ kOks l
def kOks : List Tr → Prop
  | [] => True
  | t :: l => kOk t ∧ kOks l
end
theorem kOks_append {a b : List Tr} (h1 : kOks a) (h2 : kOks b) : kOks (a ++ b) := by
  induction a with
  | nil => exact h2
  | cons t a ih => simp only [List.cons_append, kOks] at h1 ⊢; exact ⟨h1.1, ih h1.2⟩
theorem kOks_nd {k : Nat} {l : List Tr} (h1 : 1 ≤ k) (h2 : k ≤ 18) (h : kOks l) : kOks [.nd k l] := by simp only [kOks, kOk]; exact ⟨⟨h1, h2, h⟩, trivial⟩
theorem kOks_nil : kOks [] := by simp [kOks]
abbrev KO (r : RT) : Prop := kOks r.1
section
variable (T : List Tok)
theorem leaf_ko (s : St) : KO (leafT T s) := by simp [KO, leafT, kOks, kOk]
theorem must_ko (w : List UInt8) (s : St) : KO (mustT T w s) := by unfold mustT; split; exact leaf_ko T s; exact kOks_nil
theorem kind_ko (k : Nat) (s : St) : KO (kindT T k s) := by unfold kindT; split; exact leaf_ko T s; exact kOks_nil
theorem row_ko {c : St → Bool} {sub : St → RT} (hs : ∀ s, KO (sub s)) : ∀ f r, KO r → KO (rwT T c sub f r)
  | 0, r, h => h
  | f + 1, r, h => by
    unfold rwT
    split
    · exact row_ko hs f _ (kOks_nd (by decide) (by decide) (kOks_append (kOks_append h (leaf_ko T _)) (hs _)))
    · exact h
theorem parts_ko {sub : St → RT} (hs : ∀ s, KO (sub s)) : ∀ f k r, KO r → KO (partsT T sub f k r)
  | 0, k, r, h => h
  | f + 1, k, r, h => by
    unfold partsT
    split
    · exact parts_ko hs f _ _ (kOks_append (kOks_append h (leaf_ko T _)) (hs _))
    · exact h
structure NxO (nt : NxT) : Prop where
  expr : ∀ s, KO (nt.expr s)
  formula : ∀ s, KO (nt.formula s)
  nots : ∀ s, KO (nt.nots s)
  factor : ∀ s, KO (nt.factor s)
end
section
variable (T : List Tok) (D n : Nat) {nt : NxT} (h : NxO nt)
include h
theorem args_ko (s : St) : KO (argsT T nt s) := parts_ko T h.expr _ _ _ (h.expr s)
omit h in
theorem nameB_ko {a : RT} (ha : KO a) : KO (nameBT T a) := by
  unfold nameBT; split
  · exact kOks_append (kOks_append ha (leaf_ko T _)) (kind_ko T _ _)
  · exact ha
omit h in
theorem nameC_ko {a : RT} (ha : KO a) : KO (nameCT T a) := kOks_append ha (must_ko T _ _)
theorem nameD_ko {a : RT} (ha : KO a) : KO (nameDT T nt a) := by
  unfold nameDT; split
  · exact ha
  · exact kOks_append ha (args_ko T h _)
omit h in
theorem nameE_ko {a : RT} (ha : KO a) : KO (nameET T a) := kOks_nd (by decide) (by decide) (kOks_append ha (must_ko T _ _))
theorem name_ko (s : St) : KO (nameT T nt s) := by
  unfold nameT; split
  · exact kOks_nd (by decide) (by decide) (leaf_ko T _)
  · exact nameE_ko T (nameD_ko T h (nameC_ko T (nameB_ko T (leaf_ko T _))))
theorem atom_ko (s : St) : KO (atomT T nt s) := by
  unfold atomT
  split
  · exact kOks_nil
  split
  · exact kOks_nd (by decide) (by decide) (leaf_ko T _)
  split
  · exact kOks_nd (by decide) (by decide) (leaf_ko T _)
  split
  · exact kOks_nd (by decide) (by decide) (leaf_ko T _)
  split
  · exact kOks_nd (by decide) (by decide) (kOks_append (kOks_append (leaf_ko T _) (h.expr _)) (must_ko T _ _))
  split
  · exact name_ko T h s
  · exact kOks_nil
omit h in
theorem sign_ko {sub : St → RT} (hs : ∀ s, KO (sub s)) (s : St) : KO (signT T D n sub s) := by
  unfold signT
  simp only []
  split
  · exact kOks_nil
  · exact kOks_nd (by decide) (by decide) (kOks_append (leaf_ko T _) (hs _))
theorem factor_ko (s : St) : KO (factorT T D n nt s) := by
  unfold factorT; split
  · exact sign_ko T D n h.factor s
  · exact atom_ko T h s
theorem product_ko (s : St) : KO (productT T D n nt s) := row_ko T (factor_ko T D n h) _ _ (factor_ko T D n h s)
theorem sum_ko (s : St) : KO (sumT T D n nt s) := row_ko T (product_ko T D n h) _ _ (product_ko T D n h s)
theorem not_ko (s : St) : KO (notT T D n nt s) := by
  unfold notT
  simp only []
  split
  · exact sign_ko T D n h.nots s
  split
  · exact kOks_nd (by decide) (by decide) (kOks_append (kOks_append (sum_ko T D n h s) (leaf_ko T _)) (sum_ko T D n h _))
  · exact sum_ko T D n h s
theorem and_ko (s : St) : KO (andT T D n nt s) := row_ko T (not_ko T D n h) _ _ (not_ko T D n h s)
theorem or_ko (s : St) : KO (orT T D n nt s) := row_ko T (and_ko T D n h) _ _ (and_ko T D n h s)
theorem formula_ko (s : St) : KO (formulaT T D n nt s) := by
  unfold formulaT
  simp only []
  split
  · split
    · exact kOks_nil
    · exact kOks_nd (by decide) (by decide) (kOks_append (kOks_append (or_ko T D n h s) (leaf_ko T _)) (h.formula _))
  · exact or_ko T D n h s
theorem let_ko (s : St) : KO (letT T nt s) :=
  kOks_nd (by decide) (by decide) (kOks_append (kOks_append (kOks_append (kOks_append (kOks_append (leaf_ko T _) (kind_ko T _ _)) (must_ko T _ _)) (h.expr _)) (must_ko T _ _)) (h.expr _))
theorem if_ko (s : St) : KO (ifT T nt s) :=
  kOks_nd (by decide) (by decide) (kOks_append (kOks_append (kOks_append (kOks_append (kOks_append (leaf_ko T _) (h.expr _)) (must_ko T _ _)) (h.expr _)) (must_ko T _ _)) (h.expr _))
theorem assert_ko (s : St) : KO (assertT T nt s) :=
  kOks_nd (by decide) (by decide) (kOks_append (kOks_append (kOks_append (leaf_ko T _) (h.expr _)) (must_ko T _ _)) (h.expr _))
theorem expr_ko (s : St) : KO (exprT T D n nt s) := by
  unfold exprT
  simp only []
  split
  · exact kOks_nil
  split
  · exact let_ko T h _
  split
  · exact if_ko T h _
  split
  · exact assert_ko T h _
  · exact formula_ko T D n h _
end
theorem nx_ko (T : List Tok) (D : Nat) : ∀ d, NxO (nxT T D d)
  | 0 => ⟨fun s => kOks_nil, fun s => kOks_nil, fun s => kOks_nil, fun s => kOks_nil⟩
  | d + 1 => ⟨expr_ko T D _ (nx_ko T D d), formula_ko T D _ (nx_ko T D d), not_ko T D _ (nx_ko T D d), factor_ko T D _ (nx_ko T D d)⟩
section
variable (T : List Tok) {et : St → RT} (h : ∀ s, KO (et s))
include h
omit h in
theorem typB_ko {a : RT} (ha : KO a) : KO (typBT T a) := by
  unfold typBT; split
  · exact kOks_append ha (kOks_nd (by decide) (by decide) (leaf_ko T _))
  · exact ha
theorem typC_ko {a : RT} (ha : KO a) : KO (typCT T et a) := by
  unfold typCT; split
  · exact kOks_append ha (kOks_nd (by decide) (by decide) (kOks_append (kOks_append (leaf_ko T _) (h _)) (must_ko T _ _)))
  · exact ha
theorem typed_ko (s : St) : KO (typedT T et s) := typC_ko T h (typB_ko T (must_ko T _ s))
theorem par_ko (s : St) : KO (parT T et s) := kOks_nd (by decide) (by decide) (kOks_append (kind_ko T _ s) (typed_ko T h _))
theorem params_ko (s : St) : KO (paramsT T et s) := parts_ko T (par_ko T h) _ _ _ (par_ko T h s)
omit h in
theorem defA_ko (s : St) : KO (defAT T s) := by unfold defAT; split; exact leaf_ko T s; exact kOks_nil
omit h in
theorem defB_ko {a : RT} (ha : KO a) : KO (defBT T a) := kOks_append ha (kOks_append (kOks_append (must_ko T _ _) (kind_ko T _ _)) (must_ko T _ _))
theorem defC_ko {a : RT} (ha : KO a) : KO (defCT T et a) := by
  unfold defCT; split
  · exact kOks_append ha (params_ko T h _)
  · exact ha
theorem defD_ko {a : RT} (ha : KO a) : KO (defDT T et a) :=
  kOks_append (kOks_append (kOks_append ha (kOks_append (kOks_append (must_ko T _ _) (typed_ko T h _)) (must_ko T _ _))) (h _)) (must_ko T _ _)
theorem def_ko (s : St) : KO (defT T et s) := kOks_nd (by decide) (by decide) (defD_ko T h (defC_ko T h (defB_ko T (defA_ko T s))))
omit h in
theorem imp_ko {r : RT} (hr : KO r) : KO (impStepT T r) := kOks_append hr (kOks_nd (by decide) (by decide) (kOks_append (kOks_append (leaf_ko T _) (kind_ko T _ _)) (must_ko T _ _)))
omit h in
theorem many_ko {c : St → Bool} {step : RT → RT} {most : Nat} (hs : ∀ r, KO r → KO (step r)) : ∀ f k r, KO r → KO (manyT T c step most f k r).2
  | 0, k, r, hr => hr
  | f + 1, k, r, hr => by
    unfold manyT
    split
    · split
      · exact kOks_nil
      · exact many_ko hs f _ _ (hs r hr)
    · exact hr
theorem program_ko (s : St) : KO (programT T et s) := by
  have h1 : KO (importsT T ([], s)).2 := many_ko T (fun r hr => imp_ko T hr) _ _ _ kOks_nil
  have h2 : KO (defsT T et (importsT T ([], s)).2).2 := many_ko T (fun r hr => kOks_append hr (def_ko T h _)) _ _ _ h1
  unfold programT
  split
  · exact h1
  split
  · exact h2
  · exact kOks_append h2 (kind_ko T _ _)
theorem alone_ko (s : St) : KO (aloneT T et s) := kOks_append (h _) (kind_ko T _ _)
end
theorem tree_ko (T : List Tok) (D : Nat) (f : Bool) : KO (treeT T D f) := by
  unfold treeT
  split
  · exact alone_ko T (nx_ko T D D).expr _
  · exact program_ko T (nx_ko T D D).expr _
end Go.Proofs.YthclkbaankjbiaaGreatDoor
namespace Go.Proofs.YthclkbaankjbiaaGreatDoor
open Go.RowKit

def toI (t : Tok) : TokI := ⟨(t.kind : Int), t.lead, t.text, (t.pos : Int)⟩
theorem app_list (a b : ByteArray) : (a ++ b).data.toList = a.data.toList ++ b.data.toList := by rw [ByteArray.data_append, Array.toList_append]
theorem sz_list {a : ByteArray} {l : List UInt8} (h : a.data.toList = l) : a.size = l.length := by rw [← list_len, h]

theorem dig_dec (k : Nat) (h : k < 19) : Lib.decDigits k = digL (k : Int) := by
  have : ∀ k, k < 19 → Lib.decDigits k = digL (k : Int) := by
    intro k h
    unfold digL Lib.decDigits
    by_cases h1 : k < 10
    · rw [dif_pos h1, if_pos (by omega)]
      congr 2
    · rw [dif_neg h1, if_neg (by omega)]
      unfold Lib.decDigits
      rw [dif_pos (by omega)]
      rw [show (48 + (k : Int) / 10).toNat = 48 + k / 10 by omega, show (48 + (k : Int) % 10).toNat = 48 + k % 10 by omega]
      rfl
  exact this k h

/-- The end has no text. -/
def EndsBare (l : List Tok) : Prop := ∀ t ∈ l, t.kind = 5 → t.text = []

set_option maxRecDepth 100000 in
set_option maxHeartbeats 8000000 in
theorem opening_c (l : List Tok) (N : List Nd) (K : Kf) (hf : Forms l.length N) (hN : N.length ≤ 10000) (hm : l.length ≤ 10000) (he : EndsBare l) (pt pn : Option Addr) (ct cn n : Nat) (x : Nd) (hx : N[n]? = some x) (w : World) (ht : TAt w pt l) (hw : NodesAt w pn N K) :
    Calls Tryz.prog 30 #[.agg #[.slice pt l.length ct, .slice pn N.length cn], .int .i64 (n : Int)] w (StrGb (openD (l.map toI) x) w) := by
  obtain ⟨f1, f2, f3, f4, f5⟩ := hf.2.1 n x hx
  have hn := (List.getElem?_eq_some_iff.1 hx).1
  obtain ⟨g, off, rfl, hgl, c0, c1, c2⟩ := node_at hw hx
  have HT := Lib.hid ht
  have HE := Lib.hid he
  obtain ⟨M, hM⟩ : ∃ M, N.length = M := ⟨_, rfl⟩
  obtain ⟨m, hm'⟩ : ∃ m, l.length = m := ⟨_, rfl⟩
  have HM := Lib.hid hm'
  rw [hm'] at f3 hm ⊢
  rw [hM] at hn ⊢
  have d1 : decide (n < M) = true := decide_eq_true hn
  have d1' : decide ((n : Int) < (M : Int)) = true := decide_eq_true (by omega)
  have HOP : Hid (∀ r : List UInt8, openD (l.map toI) x = r → StrGb (openD (l.map toI) x) w = StrGb r w) := Lib.hid (fun r h => by rw [h])
  have HOD : Hid (openD (l.map toI) x = if x.kind = 19 then tokL (l.map toI) x.tok else [40] ++ digL x.kind) := Lib.hid rfl
  obtain ⟨D, hD⟩ : ∃ D, openD (l.map toI) x = D := ⟨_, rfl⟩
  rw [hD] at HOD ⊢
  have H3 := Lib.hid f3
  obtain ⟨kd, hkd⟩ : ∃ kd, x.kind = kd := ⟨_, rfl⟩
  obtain ⟨tk, htk⟩ : ∃ tk, x.tok = tk := ⟨_, rfl⟩
  obtain ⟨kl, hkl⟩ : ∃ kl, x.kids.length = kl := ⟨_, rfl⟩
  obtain ⟨kq, hkq⟩ : ∃ kq, (K n).1 = kq := ⟨_, rfl⟩
  obtain ⟨kc, hkc⟩ : ∃ kc, (K n).2 = kc := ⟨_, rfl⟩
  rw [hkd] at f1 f2 f4 H3 c0 HOD
  rw [htk] at f4 c1 H3 HOD
  rw [hkl] at c2
  rw [hkq, hkc] at c2
  clear f3 f5 hkd htk hkl hkq hkc hx hw hM hD ht he hf HOP hm'
  go_enter Tryz.func30, Tryz.ntmps30
  by_cases h19 : kd = 19
  · subst h19
    obtain ⟨-, ht0, ht1⟩ := H3.out rfl
    obtain ⟨tn, rfl⟩ : ∃ tn : Nat, tk = (tn : Int) := ⟨tk.toNat, by omega⟩
    have htn : tn < m := by omega
    obtain ⟨t, htt⟩ : ∃ t, l[tn]? = some t := ⟨l[tn]'(by rw [HM.out]; exact htn), List.getElem?_eq_getElem _⟩
    obtain ⟨g2, off2, rfl, hgl2, hc⟩ := HT.out.resolve_left (fun e => by rw [e] at htt; simp at htt)
    obtain ⟨b0, b1, b2, b3⟩ := hc tn t htt
    have hH : tokL (l.map toI) (tn : Int) = if t.kind = 5 then 36 :: t.text else t.text := by
      unfold tokL
      rw [Int.toNat_natCast, List.getElem?_map, htt]
      simp only [Option.map_some, toI]
      by_cases h : t.kind = 5
      · rw [if_pos h, if_pos (by omega)]
      · rw [if_neg h, if_neg (by omega)]
    have hD2 := HOD.out
    rw [if_pos rfl, hH] at hD2
    have d2 : decide (tn < m) = true := decide_eq_true htn
    have d2' : decide ((tn : Int) < (m : Int)) = true := decide_eq_true (by omega)
    have HEB := Lib.hid (HE.out t (List.mem_of_getElem? htt))
    unfold strV at b1 b2
    obtain ⟨y, hy⟩ : ∃ y : ByteArray, (⟨t.lead.toArray⟩ : ByteArray) = y := ⟨_, rfl⟩
    obtain ⟨z, hz⟩ : ∃ z : ByteArray, (⟨t.text.toArray⟩ : ByteArray) = z := ⟨_, rfl⟩
    have hzl : z.data.toList = t.text := by rw [← hz]
    rw [hy] at b1
    rw [hz] at b2
    have HZL := Lib.hid hzl
    by_cases h5 : t.kind = 5
    · rw [if_pos h5, HEB.out h5] at hD2
      have HD2 := Lib.hid hD2
      replace b0 : w.cell? ⟨g2, off2 + tn * 4, none⟩ = some (.int .i64 5) := by rw [b0, h5]; rfl
      clear hc hH hD2 hy hz hzl htt h5
      go_wp2_with fail
      go_ret
      exact ⟨⟨_, rfl, by rw [HD2.out]⟩, gb_alloc (gb_alloc (World.grownBy_alloc w _ none) _) _⟩
    · rw [if_neg h5] at hD2
      have HD2 := Lib.hid hD2
      have d3 : ((t.kind : Int) == 5) = false := beq_eq_false_iff_ne.2 (by omega)
      have d3' : (t.kind == 5) = false := beq_eq_false_iff_ne.2 h5
      generalize t.kind = tkd at *
      generalize t.pos = tps at *
      clear hc hH hD2 hy hz hzl htt
      go_wp2_with fail
      go_ret
      exact ⟨⟨_, rfl, by rw [HD2.out]; exact HZL.out⟩, gb_alloc (gb_alloc (World.grownBy_alloc w _ none) _) _⟩
  · have d2 : (kd == 19) = false := beq_eq_false_iff_ne.2 h19
    obtain ⟨kn, rfl⟩ : ∃ kn : Nat, kd = (kn : Int) := ⟨kd.toNat, by omega⟩
    have hdd := HOD.out
    rw [if_neg h19, ← dig_dec kn (by omega)] at hdd
    have HDD := Lib.hid hdd
    have HIT := Lib.hid (fun W => Tryz.strconv_Itoa_small kn (by omega) W)
    clear hdd
    go_wp2_with fail
    refine (HIT.out _).mono ?_
    rintro e w1 ⟨rfl, rfl⟩
    obtain ⟨s, hs⟩ : ∃ s : ByteArray, (⟨(Lib.decDigits kn).toArray⟩ : ByteArray) = s := ⟨_, rfl⟩
    have HS : Hid (s.data.toList = Lib.decDigits kn) := Lib.hid (by rw [← hs])
    have hsz : s.size ≤ 100 := by rw [sz_list HS.out, dig_dec kn (by omega)]; have := digL_len (kn : Int); omega
    rw [hs]
    clear hs
    go_wp2_with fail
    go_ret
    exact ⟨⟨_, rfl, by rw [app_list, HS.out, HDD.out]⟩, gb_alloc (World.grownBy_alloc w _ none) _⟩
end Go.Proofs.YthclkbaankjbiaaGreatDoor
namespace Go.Proofs.YthclkbaankjbiaaGreatDoor

/-! ### Kids, each once -/

theorem allKids_append (a b : List Nd) : allKids (a ++ b) = allKids a ++ allKids b := by unfold allKids; rw [List.flatMap_append]
theorem count_split (b n : Nat) (j : Nat) : (if b ≤ j ∧ j < b + n then 1 else 0 : Nat) = if b ≤ j ∧ j < b + n then 1 else 0 := rfl
mutual
theorem kids_tree : ∀ (t : Tr) (b j : Nat), (allKids (post b t)).count (j : Int) = if b ≤ j ∧ j + 1 < b + szR t then 1 else 0
  | .lf i, b, j => by
    rw [show szR (.lf i) = 1 by simp [szR], if_neg (by omega)]
    simp [post, allKids]
  | .nd k l, b, j => by
    rw [show szR (.nd k l) = szRs l + 1 by simp [szR]]
    simp only [post, allKids_append]
    have h := kids_list l b j
    rw [List.count_append] at h ⊢
    have e : allKids [(⟨(k : Int), -1, idxs b l⟩ : Nd)] = idxs b l := by simp [allKids]
    rw [e, h]
    by_cases hc : b ≤ j ∧ j < b + szRs l
    · rw [if_pos hc, if_pos (by omega)]
    · rw [if_neg hc, if_neg (by omega)]
theorem kids_list : ∀ (l : List Tr) (b j : Nat), (allKids (posts b l) ++ idxs b l).count (j : Int) = if b ≤ j ∧ j < b + szRs l then 1 else 0
  | [], b, j => by
    rw [show szRs [] = 0 by simp [szRs], if_neg (by omega)]
    simp [posts, idxs, allKids]
  | t :: l, b, j => by
    have h1 := kids_tree t b j
    have h2 := kids_list l (b + szR t) j
    have hp := szR_pos t
    rw [show szRs (t :: l) = szR t + szRs l by simp [szRs]]
    simp only [posts, idxs, allKids_append, List.count_append, List.count_cons] at h1 h2 ⊢
    rw [h1]
    have e : ((((b + szR t - 1 : Nat) : Int) == (j : Int)) = true) ↔ j + 1 = b + szR t := by
      simp only [beq_iff_eq]; omega
    by_cases c1 : b ≤ j ∧ j + 1 < b + szR t
    · rw [if_pos c1, if_neg (by rw [e]; omega), if_pos (by omega)]
      rw [if_neg (by omega)] at h2
      omega
    · rw [if_neg c1]
      by_cases c2 : j + 1 = b + szR t
      · rw [if_pos (e.2 c2), if_pos (by omega)]
        rw [if_neg (by omega)] at h2
        omega
      · rw [if_neg (by rw [e]; exact c2)]
        by_cases c3 : b ≤ j ∧ j < b + (szR t + szRs l)
        · rw [if_pos c3]
          rw [if_pos (by omega)] at h2
          omega
        · rw [if_neg c3]
          rw [if_neg (by omega)] at h2
          omega
end

/-! ### The form of each node -/

mutual
theorem form_tree : ∀ (t : Tr) (m b j : Nat) (x : Nd), kOk t → (∀ i ∈ lvT t, i < m) → (post b t)[j]? = some x → okNd m (b + j) x
  | .lf i, m, b, j, x, _, hl, hx => by
    simp only [post] at hx
    match j, hx with
    | 0, hx =>
      simp at hx; subst hx
      have hi := hl i (by simp [lvT])
      exact ⟨by show (1 : Int) ≤ 19; omega, by show (19 : Int) ≤ 19; omega, fun _ => ⟨rfl, by show (0 : Int) ≤ (i : Int); omega, by show (i : Int) < m; omega⟩, fun h => absurd rfl h, fun k hk => by simp at hk⟩
    | j + 1, hx => simp at hx
  | .nd k l, m, b, j, x, hk, hl, hx => by
    simp only [kOk] at hk
    simp only [post] at hx
    by_cases hj : j < szRs l
    · rw [List.getElem?_append_left (by rw [posts_len]; exact hj)] at hx
      exact form_list l m b j x hk.2.2 (fun i hi => hl i (by simpa [lvT] using hi)) hx
    · have h1 := (List.getElem?_eq_some_iff.1 hx).1
      rw [List.length_append, posts_len, List.length_singleton] at h1
      obtain rfl : j = szRs l := by omega
      rw [List.getElem?_append_right (by rw [posts_len]; exact Nat.le_refl _), posts_len] at hx
      simp at hx
      subst hx
      refine ⟨by show (1 : Int) ≤ (k : Int); omega, by show (k : Int) ≤ 19; omega, fun h => by have : (k : Int) = 19 := h; omega, fun _ => rfl, fun q hq => ?_⟩
      have := idxs_in l b q hq
      omega
theorem form_list : ∀ (l : List Tr) (m b j : Nat) (x : Nd), kOks l → (∀ i ∈ lvTs l, i < m) → (posts b l)[j]? = some x → okNd m (b + j) x
  | [], m, b, j, x, _, _, hx => by simp [posts] at hx
  | t :: l, m, b, j, x, hk, hl, hx => by
    simp only [kOks] at hk
    simp only [posts] at hx
    by_cases hj : j < szR t
    · rw [List.getElem?_append_left (by rw [post_len]; exact hj)] at hx
      exact form_tree t m b j x hk.1 (fun i hi => hl i (by simp [lvTs, hi])) hx
    · rw [List.getElem?_append_right (by rw [post_len]; omega), post_len] at hx
      have := form_list l m (b + szR t) (j - szR t) x hk.2 (fun i hi => hl i (by simp [lvTs, hi])) hx
      rw [show b + szR t + (j - szR t) = b + j by omega] at this
      exact this
end
theorem post_forms {t : Tr} {m : Nat} (hk : kOk t) (hl : ∀ i ∈ lvT t, i < m) : Forms m (post 0 t) := by
  refine ⟨fun e => ?_, fun i x hx => ?_, fun j hj => ?_⟩
  · have := post_len t 0
    rw [e] at this
    have := szR_pos t
    simp at *; omega
  · have := form_tree t m 0 i x hk hl hx
    rw [Nat.zero_add] at this; exact this
  · unfold times
    rw [kids_tree, if_pos (by rw [post_len] at hj; omega)]

/-! ### Leaves and dumps -/

/-- A part of a row. -/
def PartAt (N : List Nd) (b : Nat) (P : List Nd) : Prop := ∀ (j : Nat) (x : Nd), P[j]? = some x → N[b + j]? = some x
theorem PartAt.left {N : List Nd} {b : Nat} {P Q : List Nd} (h : PartAt N b (P ++ Q)) : PartAt N b P := fun j x hx => h j x (by rw [List.getElem?_append_left (List.getElem?_eq_some_iff.1 hx).1]; exact hx)
theorem PartAt.right {N : List Nd} {b : Nat} {P Q : List Nd} (h : PartAt N b (P ++ Q)) : PartAt N (b + P.length) Q := fun j x hx => by
  have := h (P.length + j) x (by rw [List.getElem?_append_right (by omega), Nat.add_sub_cancel_left]; exact hx)
  rw [Nat.add_assoc]; exact this
mutual
theorem lv_tree {N : List Nd} (hN : KidsAhead N) : ∀ (t : Tr) (b : Nat), kOk t → PartAt N b (post b t) → lv N (b + szR t - 1) = (lvT t).map fun (i : Nat) => (i : Int)
  | .lf i, b, _, h => by
    have hx := h 0 ⟨19, (i : Int), []⟩ (by simp [post])
    simp only [szR, lvT]
    rw [show b + 1 - 1 = b + 0 by omega, lv_eq hN hx, if_pos rfl]; rfl
  | .nd k l, b, hk, h => by
    simp only [post] at h
    have hx := h.right 0 ⟨(k : Int), -1, idxs b l⟩ (by simp)
    rw [posts_len] at hx
    simp only [kOk] at hk
    simp only [szR, lvT]
    rw [show b + (szRs l + 1) - 1 = b + szRs l + 0 by omega, lv_eq hN hx, if_neg (by show ¬ (k : Int) = 19; omega)]
    exact lv_list hN l b hk.2.2 h.left
theorem lv_list {N : List Nd} (hN : KidsAhead N) : ∀ (l : List Tr) (b : Nat), kOks l → PartAt N b (posts b l) → ((idxs b l).flatMap fun k => lv N k.toNat) = (lvTs l).map fun (i : Nat) => (i : Int)
  | [], b, _, h => rfl
  | t :: l, b, hk, h => by
    simp only [posts] at h
    simp only [kOks] at hk
    have h2 := h.right
    rw [post_len] at h2
    simp only [idxs, lvTs, List.flatMap_cons, List.map_append]
    rw [lv_list hN l (b + szR t) hk.2 h2, Int.toNat_natCast, lv_tree hN t b hk.1 h.left]
end
theorem dig_same : ∀ k : Nat, k ≤ 18 → digL (k : Int) = digT k := by decide
theorem tok_same {T : List Tok} (he : EndsBare T) {i : Nat} (hi : i < T.length) : tokL (T.map toI) (i : Int) = tokT T i := by
  unfold tokL tokT
  rw [Int.toNat_natCast, List.getElem?_map, List.getElem?_eq_getElem hi]
  show (if (toI T[i]).kind = 5 then 36 :: (toI T[i]).text else (toI T[i]).text) = (if (T[i]).kind = 5 then [36] else (T[i]).text)
  by_cases h : (T[i]).kind = 5
  · rw [if_pos (show (toI T[i]).kind = 5 from by show ((T[i]).kind : Int) = 5; omega), if_pos h]
    show 36 :: (T[i]).text = [36]
    rw [he _ (List.getElem_mem hi) h]
  · rw [if_neg (show ¬ (toI T[i]).kind = 5 from by show ¬ ((T[i]).kind : Int) = 5; omega), if_neg h]; rfl
mutual
theorem dp_tree {T : List Tok} (he : EndsBare T) {N : List Nd} (hN : KidsAhead N) : ∀ (t : Tr) (b : Nat), kOk t → (∀ i ∈ lvT t, i < T.length) → PartAt N b (post b t) → dp (T.map toI) N (b + szR t - 1) = dmp T t
  | .lf i, b, _, hl, h => by
    have hx := h 0 ⟨19, (i : Int), []⟩ (by simp [post])
    simp only [szR, dmp]
    rw [show b + 1 - 1 = b + 0 by omega, dp_eq hN hx, if_pos rfl]
    exact tok_same he (hl i (by simp [lvT]))
  | .nd k l, b, hk, hl, h => by
    simp only [post] at h
    have hx := h.right 0 ⟨(k : Int), -1, idxs b l⟩ (by simp)
    rw [posts_len] at hx
    simp only [kOk] at hk
    simp only [szR, dmp]
    rw [show b + (szRs l + 1) - 1 = b + szRs l + 0 by omega, dp_eq hN hx, if_neg (by show ¬ (k : Int) = 19; omega)]
    show [40] ++ digL (k : Int) ++ ((idxs b l).flatMap fun q => 32 :: dp (T.map toI) N q.toNat) ++ [41] = 40 :: digT k ++ dmps T l ++ [41]
    rw [dig_same k hk.2.1, dp_list he hN l b hk.2.2 (fun i hi => hl i (by simpa [lvT] using hi)) h.left]; rfl
theorem dp_list {T : List Tok} (he : EndsBare T) {N : List Nd} (hN : KidsAhead N) : ∀ (l : List Tr) (b : Nat), kOks l → (∀ i ∈ lvTs l, i < T.length) → PartAt N b (posts b l) → ((idxs b l).flatMap fun q => 32 :: dp (T.map toI) N q.toNat) = dmps T l
  | [], b, _, _, h => by simp [idxs, dmps]
  | t :: l, b, hk, hl, h => by
    simp only [posts] at h
    simp only [kOks] at hk
    have h2 := h.right
    rw [post_len] at h2
    simp only [idxs, dmps, List.flatMap_cons]
    rw [dp_list he hN l (b + szR t) hk.2 (fun i hi => hl i (by simp [lvTs, hi])) h2, Int.toNat_natCast, dp_tree he hN t b hk.1 (fun i hi => hl i (by simp [lvTs, hi])) h.left]
end
theorem part_self (N : List Nd) : PartAt N 0 N := fun j x hx => by rw [Nat.zero_add]; exact hx
/-- A tree over all tokens is right. -/
theorem post_right {t : Tr} {m : Nat} (hk : kOk t) (hl : lvT t = List.range m) : rightT m (post 0 t) := by
  have hf := post_forms (m := m) hk (fun i hi => by rw [hl] at hi; exact List.mem_range.1 hi)
  refine ⟨hf, ?_⟩
  have := lv_tree hf.ahead t 0 hk (part_self _)
  rw [post_len, ← hl, ← this, Nat.zero_add]
theorem post_dump {T : List Tok} {t : Tr} (he : EndsBare T) (hk : kOk t) (hl : lvT t = List.range T.length) : dp (T.map toI) (post 0 t) ((post 0 t).length - 1) = dmp T t := by
  have hlt : ∀ i ∈ lvT t, i < T.length := fun i hi => by rw [hl] at hi; exact List.mem_range.1 hi
  have hf := post_forms (m := T.length) hk hlt
  have := dp_tree he hf.ahead t 0 hk hlt (part_self _)
  rw [Nat.zero_add] at this
  rw [post_len]; exact this

/-! ### How long a dump is -/

mutual
theorem dmp_len (T : List Tok) : ∀ t : Tr, (dmp T t).length + 1 ≤ 5 * szR t + ((lvT t).map fun i => (tokT T i).length).sum
  | .lf i => by simp [dmp, szR, lvT]; omega
  | .nd k l => by
    have := dmps_len T l
    have hd : (digT k).length ≤ 2 := by unfold digT; split <;> simp
    simp only [dmp, szR, lvT, List.length_append, List.length_cons, List.length_nil]; omega
theorem dmps_len (T : List Tok) : ∀ l : List Tr, (dmps T l).length ≤ 5 * szRs l + ((lvTs l).map fun i => (tokT T i).length).sum
  | [] => by simp [dmps, szRs, lvTs]
  | t :: l => by
    have h1 := dmp_len T t
    have h2 := dmps_len T l
    simp only [dmps, szRs, lvTs, List.length_append, List.length_cons, List.map_append, List.sum_append]; omega
end
theorem toks_sum (T : List Tok) : ((List.range T.length).map fun i => (tokT T i).length).sum ≤ (wholeL T).length + T.length := by
  have key : ∀ n, n ≤ T.length → ((List.range n).map fun i => (tokT T i).length).sum ≤ (wholeL (T.take n)).length + n := by
    intro n
    induction n with
    | zero => intro _; simp
    | succ n ih =>
      intro h
      have h1 := ih (by omega)
      have ht : T[n]? = some T[n] := List.getElem?_eq_getElem (by omega)
      rw [List.range_succ, List.map_append, List.sum_append, wholeL_next ht, List.length_append, List.length_append]
      have h2 : (tokT T n).length ≤ (T[n]).text.length + 1 := by
        unfold tokT
        rw [ht]
        show (if (T[n]).kind = 5 then [36] else (T[n]).text : List UInt8).length ≤ _
        split
        · simp
        · omega
      simp only [List.map_cons, List.map_nil, List.sum_cons, List.sum_nil]
      omega
  have := key T.length (Nat.le_refl _)
  rw [List.take_of_length_le (Nat.le_refl _)] at this
  exact this
end Go.Proofs.YthclkbaankjbiaaGreatDoor
