/- An expression's dump and its size. -/
import Derived.Test.YtoahgeleenpnjaaGreatDoorE13
import Derived.Test.YtoahgeleenpnjaaGreatDoorE14
import Derived.Test.YtoahgeleenpnjaaGreatDoorE15
set_option linter.unusedVariables false
set_option linter.unusedSimpArgs false
namespace Go.Proofs.YtoahgeleenpnjaaGreatDoor
open Go.RowKit

theorem tellD (F : Nat → Prop) (B : Nat) (hF : ∀ k, F k → k < B) : Tell stD 42 B B F (PD B B) LD allS where
  below := hF
  box := Nat.le_refl _
  tell := fun s f w hp _ hx hd hq hl => dump1_c F B B hF s f w hp hx hd hq hl
  mono := fun s x d h => by unfold LD stD at h; unfold LD; rw [List.length_append] at h; omega
  kids := fun x k h hk => allS_kid h hk
  grown := fun s w w' h hg => h.gb hg
  placed := fun s w w' g cs h hg hc hne => ⟨bld_keptS h.1 hg hc (by decide) hne, Nat.le_trans h.2 hg.size⟩

/-- An expression laid into a box of its own. -/
theorem EAt.box {F : Nat → Prop} {w : World} {x : Ex} {q : List Value} (h : EAt F w x q) : PAtE (fun k => k ≤ w.heap.size) (w.alloc (.cells q.toArray 60)) w.heap.size 0 x :=
  ⟨Nat.le_refl _, by simp, q, h.len, fun i v hi => by
    rw [Nat.zero_add]; unfold World.cell?; rw [show (⟨w.heap.size, i, none⟩ : Addr).block = w.heap.size from rfl, heap_alloc_new w]; simpa using hi,
   (h.bound.mono (fun k hk => Nat.le_of_lt hk.2)).kept (World.grownBy_alloc w _ none)⟩

set_option maxRecDepth 100000 in
set_option maxHeartbeats 16000000 in
theorem Dump_c2 (F : Nat → Prop) (x : Ex) (q : List Value) (w : World) (hx : EAt F w x q) (hs : allS x) (hc : cntE x ≤ 1000000) (hD : (dmpE x).length ≤ 1000000) :
    Calls Tryz.prog 21 #[.agg q.toArray] w (StrGb (dmpE x) w) := by
  have hb := hx.box
  have HS := Lib.hid hs; have HC := Lib.hid hc; have HD := Lib.hid hD
  obtain ⟨v0, v1, v2, v3, v4, v5, v6, v7, rfl⟩ : ∃ v0 v1 v2 v3 v4 v5 v6 v7, q = [v0, v1, v2, v3, v4, v5, v6, v7] := by
    have := hx.len
    match q, this with
    | [v0, v1, v2, v3, v4, v5, v6, v7], _ => exact ⟨_, _, _, _, _, _, _, _, rfl⟩
  have hA := World.grownBy_alloc w (.cells #[v0, v1, v2, v3, v4, v5, v6, v7] 60) none
  clear hx hs hc hD
  go_enter Tryz.func21, Tryz.ntmps21
  go_wp2_with fail
  change PAtE _ (w.alloc (.cells #[v0, v1, v2, v3, v4, v5, v6, v7] 60)) _ _ _ at hb
  obtain ⟨b, hbb⟩ : ∃ b, w.heap.size = b := ⟨_, rfl⟩
  have hsz : (w.alloc (.cells #[v0, v1, v2, v3, v4, v5, v6, v7] 60)).heap.size = b + 1 := by simp [hbb]
  generalize (w.alloc (.cells #[v0, v1, v2, v3, v4, v5, v6, v7] 60)) = WA at *
  have hbl := bld_new WA (b + 1) (by omega)
  have hgB := World.grownBy_alloc WA (.cells #[.pointer none, .slice none 0 0] 97) none
  have hsB : (WA.alloc (.cells #[.pointer none, .slice none 0 0] 97)).heap.size = b + 2 := by simp [hsz]
  generalize (WA.alloc (.cells #[.pointer none, .slice none 0 0] 97)) = WB at *
  rw [hsz] at hbl
  rw [hbb] at hb ⊢
  have hb2 := (hb.same (S := fun _ => False) (Fr2.none hgB) (fun _ _ h => h))
  have HW := Lib.hid (walkD_c stD (b + 1) (b + 1) _ (PD (b + 1) (b + 1)) LD allS (tellD (fun k => k ≤ b) (b + 1) (fun k hk => by omega)) x b 0 [] WB ⟨hbl, by omega⟩ hb2 (by omega) HC.out (by rw [runE_D]; exact HD.out) HS.out)
  have HG : Hid (w.grownBy WB none) := Lib.hid (gb_trans hA hgB)
  have HB1 : Hid (w.heap.size = b) := Lib.hid hbb
  have HZB : Hid (WB.heap.size = b + 2) := Lib.hid hsB
  clear hb hb2 hbl hsB hgB hsz hA hbb
  refine HW.out.mono ?_
  rintro e W3 ⟨rfl, hp3, hbe3⟩
  rw [runE_D, List.nil_append] at hp3
  have HSTR := Lib.hid (Tryz.Builder_String_any_k (b + 1) (b + 1) _ W3 (Lib.IsBuilderF.of hp3.1) hp3.2)
  have HBE3 := Lib.hid hbe3
  clear hp3 hbe3 HW
  go_wp2_with fail
  refine HSTR.out.mono ?_
  rintro e w7 ⟨rfl, -, hbe7, -⟩
  have HG7 : Hid (w.grownBy w7 none) := Lib.hid (below_gb (Below.mono (Below.trans2 (Below.gb HG.out (by rw [HB1.out]; exact Nat.le_refl _)) ((Below.trans2 HBE3.out hbe7).mono (by omega))) (by rw [HB1.out]; exact Nat.le_refl _)))
  clear hbe7
  go_wp2_with fail
  go_ret
  exact ⟨⟨_, rfl, rfl⟩, HG7.out⟩
end Go.Proofs.YtoahgeleenpnjaaGreatDoor
namespace Go.Proofs.YtoahgeleenpnjaaGreatDoor
open Go.RowKit

mutual
/-- How many expressions an expression is made of. -/
def sizE : Ex → Nat
  | .mk _ _ _ _ _ ks _ => 1 + sizK ks
def sizK : List Ex → Nat
  | [] => 0
  | k :: l => sizE k + sizK l
end
def stS (n : Nat) (_ : Ex) (d : Nat) : Nat := if d = 0 then n + 1 else n
mutual
theorem runE_S : ∀ (x : Ex) (n : Nat), runE stS x n = n + sizE x
  | .mk op nm md nu ys ks ps, n => by
    simp only [runE, sizE]
    rw [show stS n (.mk op nm md nu ys ks ps) 0 = n + 1 from rfl, runK_S _ 0 ks]; omega
theorem runK_S (x : Ex) : ∀ (j : Nat) (l : List Ex) (n : Nat), runK stS x j l n = n + sizK l
  | j, [], n => by simp [runK, sizK]
  | j, k :: l, n => by
    simp only [runK, sizK]
    rw [runE_S k, show stS (n + sizE k) x (j + 1) = n + sizE k from rfl, runK_S x (j + 1) l]; omega
end
def PS (b n : Nat) (w : World) : Prop := w.heap[b]? = some (.cells #[.int .i64 (n : Int)] 3 (0, 0))
def LS (n : Nat) : Prop := n ≤ 1000000

theorem PS.set {b n : Nat} {w : World} (h : PS b n w) (m : Nat) : PS b m (w.setCell ⟨b, 0, none⟩ (.int .i64 (m : Int))) := by
  unfold PS at h ⊢
  simp only [World.setCell, Array.getElem?_modify, h]; simp

set_option maxRecDepth 100000 in
set_option maxHeartbeats 16000000 in
theorem size1_c (b : Nat) (n : Nat) (d : Nat) (av : Value) (w : World) (hp : PS b n w) (hl : LS (if d = 0 then n + 1 else n)) :
    Calls Tryz.prog 44 #[av, .int .i64 (d : Int), .pointer (some ⟨b, 0, none⟩)] w (fun e w' => e = .returned (.tuple #[]) ∧ PS b (if d = 0 then n + 1 else n) w' ∧ Below b w w' ∧ OKept b w w') := by
  have hbl := hlt' hp
  have c0 : w.cell? ⟨b, 0, none⟩ = some (.int .i64 (n : Int)) := by unfold World.cell?; unfold PS at hp; simp [hp]
  have hfz : w.frozen? ⟨b, 0, none⟩ = false := by unfold PS at hp; simp [World.frozen?, hp]
  go_enter Tryz.func44, Tryz.ntmps44
  by_cases h0 : d = 0
  · have e1 : ((d : Int) == 0) = true := by rw [h0]; rfl
    have e1' : (d == 0) = true := by rw [h0]; rfl
    rw [if_pos h0] at hl ⊢
    have hw1 : IntKind.i64.wrap ((n : Int) + 1) = ((n + 1 : Nat) : Int) := by unfold LS at hl; rw [IntWalk.i64_in _ (by omega)]; omega
    clear h0
    go_wp2_with fail
    refine bodyPost_end (results_none rfl _ _ _) rfl ?_
    exact ⟨rfl, hp.set (n + 1), (Below.refl b w).setCell (Nat.le_refl _) _, fun g cs T h1 _ h3 => by rw [Below.heap_setCell _ _ _ _ (by exact h3)]; exact h1⟩
  · have e1 : ((d : Int) == 0) = false := beq_eq_false_iff_ne.2 (by omega)
    have e1' : (d == 0) = false := beq_eq_false_iff_ne.2 h0
    rw [if_neg h0] at hl ⊢
    clear h0
    go_wp2_with fail
    refine bodyPost_end (results_none rfl _ _ _) rfl ?_
    exact ⟨rfl, hp, Below.refl b w, fun _ _ _ h _ _ => h⟩

theorem tellS (F : Nat → Prop) (B : Nat) (hF : ∀ k, F k → k < B) : Tell stS 44 B B F (PS B) LS (fun _ => True) where
  below := hF
  box := Nat.le_refl _
  tell := fun s f w hp _ hx hd hq hl => size1_c B s f.d _ w hp hl
  mono := fun s x d h => by unfold LS stS at h; unfold LS; split at h <;> omega
  kids := fun _ _ _ _ => trivial
  grown := fun s w w' h hg => by unfold PS at h ⊢; exact bx hg h
  placed := fun s w w' g cs h hg hc hne => by unfold PS at h ⊢; rw [hg.block B (hlt' h) (fun e => hne (by injection e with e; exact e.symm))]; exact h

set_option maxRecDepth 100000 in
set_option maxHeartbeats 16000000 in
theorem Size_c (F : Nat → Prop) (x : Ex) (q : List Value) (w : World) (hx : EAt F w x q) (hc : cntE x ≤ 1000000) (hD : sizE x ≤ 1000000) :
    Calls Tryz.prog 22 #[.agg q.toArray] w (fun e w' => e = .returned (.int .i64 (sizE x : Int)) ∧ w.grownBy w' none) := by
  have hb := hx.box
  have HC := Lib.hid hc; have HD := Lib.hid hD
  obtain ⟨v0, v1, v2, v3, v4, v5, v6, v7, rfl⟩ : ∃ v0 v1 v2 v3 v4 v5 v6 v7, q = [v0, v1, v2, v3, v4, v5, v6, v7] := by
    have := hx.len
    match q, this with
    | [v0, v1, v2, v3, v4, v5, v6, v7], _ => exact ⟨_, _, _, _, _, _, _, _, rfl⟩
  have hA := World.grownBy_alloc w (.cells #[v0, v1, v2, v3, v4, v5, v6, v7] 60) none
  obtain ⟨n, hn⟩ : ∃ n, sizE x = n := ⟨_, rfl⟩
  rw [hn]
  have HN := Lib.hid hn
  clear hx hc hD hn
  go_enter Tryz.func22, Tryz.ntmps22
  go_wp2_with fail
  change PAtE _ (w.alloc (.cells #[v0, v1, v2, v3, v4, v5, v6, v7] 60)) _ _ _ at hb
  obtain ⟨b, hbb⟩ : ∃ b, w.heap.size = b := ⟨_, rfl⟩
  have hsz : (w.alloc (.cells #[v0, v1, v2, v3, v4, v5, v6, v7] 60)).heap.size = b + 1 := by simp [hbb]
  generalize (w.alloc (.cells #[v0, v1, v2, v3, v4, v5, v6, v7] 60)) = WA at *
  have hbl : PS (b + 1) 0 (WA.alloc (.cells #[.int .i64 0] 3)) := by unfold PS; rw [← hsz]; exact heap_alloc_new WA _
  have hgB := World.grownBy_alloc WA (.cells #[.int .i64 0] 3) none
  have hsB : (WA.alloc (.cells #[.int .i64 0] 3)).heap.size = b + 2 := by simp [hsz]
  generalize (WA.alloc (.cells #[.int .i64 0] 3)) = WB at *
  rw [hbb] at hb ⊢
  have hb2 := (hb.same (S := fun _ => False) (Fr2.none hgB) (fun _ _ h => h))
  have HW := Lib.hid (walkS_c stS (b + 1) (b + 1) _ (PS (b + 1)) LS (fun _ => True) (tellS (fun k => k ≤ b) (b + 1) (fun k hk => by omega)) x b 0 0 WB hbl hb2 (by omega) HC.out (by rw [runE_S, Nat.zero_add]; exact HD.out) trivial)
  have HG : Hid (w.grownBy WB none) := Lib.hid (gb_trans hA hgB)
  have HB1 : Hid (w.heap.size = b) := Lib.hid hbb
  clear hb hb2 hbl hsB hgB hsz hA hbb
  refine HW.out.mono ?_
  rintro e W3 ⟨rfl, hp3, hbe3⟩
  rw [runE_S, Nat.zero_add] at hp3
  rw [HN.out] at hp3
  have hbl := hlt' hp3
  have c0 : W3.cell? ⟨b + 1, 0, none⟩ = some (.int .i64 (n : Int)) := by unfold World.cell?; unfold PS at hp3; simp [hp3]
  have HG7 : Hid (w.grownBy W3 none) := Lib.hid (below_gb (Below.mono (Below.trans2 (Below.gb HG.out (by rw [HB1.out]; exact Nat.le_refl _)) (hbe3.mono (by omega))) (by rw [HB1.out]; exact Nat.le_refl _)))
  clear hbe3 HW hp3
  go_wp2_with fail
  go_ret
  exact ⟨rfl, HG7.out⟩
end Go.Proofs.YtoahgeleenpnjaaGreatDoor
namespace Go.Proofs.YtoahgeleenpnjaaGreatDoor
open Go.RowKit

theorem frozen_none {w : World} {g : Nat} {cs : Array Value} {T : TypeId} (h : w.heap[g]? = some (.cells cs T (0, 0))) (i : Nat) : w.frozen? ⟨g, i, none⟩ = false := by
  unfold World.frozen?; simp [h]
theorem set_isd {base g i : Nat} {w : World} {u : Value} (h : IsD base w g) : ∀ k, IsD base w k → IsD base (w.setCell ⟨g, i, none⟩ u) k := fun k hk => by
  by_cases e : k = g
  · subst e
    obtain ⟨h1, cs, h2⟩ := hk
    exact ⟨h1, _, set_cells h2⟩
  · obtain ⟨h1, cs, h2⟩ := hk
    refine ⟨h1, cs, ?_⟩
    rw [(Fr2.setCell (S := fun k => k = g) (Fr2.refl _ w) (g := g) (j := i) rfl u).block k (hlt h2) e]; exact h2
theorem set_agr {base g i : Nat} {w : World} (u : Value) (h : IsD base w g) : Agr base (fun g' i' => g' = g ∧ i' = i) w (w.setCell ⟨g, i, none⟩ u) := by
  have hf := Fr2.setCell (S := fun k => k = g) (Fr2.refl _ w) (g := g) (j := i) rfl u
  refine ⟨hf.os, hf.tape, hf.output, hf.size, fun k hk hl => hf.block k hl (fun e => by have := h.1; omega), set_isd h, fun g' i' v hg hn hc => ?_⟩
  rw [World.cell?_setCell_other _ _ _ _ (fun e => hn ⟨by injection e with e1 e2; exact e1.symm, by injection e with e1 e2; exact e2.symm⟩)]; exact hc
theorem set_same {base g i : Nat} {w : World} {u : Value} (h : IsD base w g) (hc : w.cell? ⟨g, i, none⟩ = some u) : Agr base (fun _ _ => False) w (w.setCell ⟨g, i, none⟩ u) := by
  have hf := set_agr (i := i) u h
  refine ⟨hf.os, hf.tape, hf.output, hf.size, hf.old, hf.isd, fun g' i' v hg _ h1 => ?_⟩
  by_cases e : g' = g ∧ i' = i
  · obtain ⟨rfl, rfl⟩ := e
    rw [hc] at h1; cases h1
    exact World.cell?_setCell_same w _ _ hc
  · exact hf.cell g' i' v hg e h1
theorem set_it {w : World} {g i : Nat} {u v : Value} (hc : w.cell? ⟨g, i, none⟩ = some v) : (w.setCell ⟨g, i, none⟩ u).cell? ⟨g, i, none⟩ = some u := World.cell?_setCell_same w _ _ hc
theorem set_fr (w : World) (g i : Nat) (u : Value) : Fr2 (fun k => k = g) w (w.setCell ⟨g, i, none⟩ u) := Fr2.setCell (S := fun k => k = g) (Fr2.refl _ w) (g := g) (j := i) rfl u

/-! ### The stack -/

def stRow (p : Pd) : List Value := [.pointer (some ⟨p.1, p.2.1, none⟩)]
def szP : List Pd → Nat
  | [] => 0
  | p :: l => sizE p.2.2 + szP l
theorem szP_append (a b : List Pd) : szP (a ++ b) = szP a + szP b := by
  induction a with
  | nil => simp [szP]
  | cons p a ih => simp only [List.cons_append, szP, ih]; omega
theorem sizE_pos1 (x : Ex) : 1 ≤ sizE x := by cases x; simp only [sizE]; omega
theorem szP_len (l : List Pd) : l.length ≤ szP l := by
  induction l with
  | nil => simp [szP]
  | cons p l ih => have := sizE_pos1 p.2.2; simp only [List.length_cons, szP]; omega
theorem szP_map (h : Nat) : ∀ (ks : List Ex) (o : Nat), szP (ks.mapIdx (fun j k => (h, o + j * 8, k))) = sizK ks
  | [], o => by simp [szP, sizK]
  | k :: ks, o => by
    rw [List.mapIdx_cons]
    simp only [szP, sizK]
    have e : (fun (j : Nat) (k : Ex) => ((h, o + (j + 1) * 8, k) : Pd)) = (fun j k => (h, (o + 8) + j * 8, k)) := by
      funext j k; rw [show o + (j + 1) * 8 = o + 8 + j * 8 by omega]
    rw [e, szP_map h ks (o + 8)]
theorem szP_kids (h : Nat) (ks : List Ex) : szP (kidsP h ks) = sizK ks := by
  have := szP_map h ks 0
  simp only [Nat.zero_add] at this
  exact this
theorem sizE_kids (x : Ex) : sizE x = 1 + sizK (kidsE x) := by cases x; simp only [sizE, kidsE]
theorem infoPE : (Tryz.prog.info? 111).map (fun i => (i.zero, i.size, i.bytes)) = some (some (.pointer none), 1, 8) := by kernel_rfl
theorem kidsP_take {h : Nat} {ks : List Ex} {j : Nat} (hj : j < ks.length) : (kidsP h ks).take (j + 1) = (kidsP h ks).take j ++ [(h, j * 8, ks[j])] := by
  have : (kidsP h ks)[j]? = some (h, j * 8, ks[j]) := by unfold kidsP; rw [List.getElem?_mapIdx, List.getElem?_eq_getElem hj]; rfl
  rw [List.take_add_one, this]; rfl
/-- What of a part's row the walk reads. -/
theorem pend_cells {F : Nat → Prop} {base r : Nat} {x : Ex} {P : List Pd} {g o : Nat} {y : Ex} {w : World} (hI : CpI F base r x (P ++ [(g, o, y)]) w) :
    ∃ (a b : ByteArray) (pk : Option Addr) (ck : Nat) (rows : List (List Value)), w.cell? ⟨g, o + 1, none⟩ = some (.string a) ∧ w.cell? ⟨g, o + 2, none⟩ = some (.string b) ∧ w.cell? ⟨g, o + 6, none⟩ = some (.slice pk (kidsE y).length ck) ∧ IsD base w g ∧ GAt 8 w pk rows ∧ LsE (OldB F base) w (kidsE y) rows ∧ Wid 8 rows := by
  obtain ⟨h1, q, hq, hc, he⟩ := hI.pend (g, o, y) (by simp)
  cases y with
  | mk op nm md nu ys ks ps =>
    simp only [EAt] at he
    obtain ⟨s, pw, nw, cw, pk, ck, rows, rfl, -, h3, h4, -⟩ := he
    exact ⟨_, _, pk, ck, rows, hc 1 _ rfl, hc 2 _ rfl, hc 6 _ rfl, h1, h3, h4, fun q hq => by
      obtain ⟨j, hj⟩ := List.getElem?_of_mem hq
      have key : ∀ {l : List Ex} {r : List (List Value)} {j : Nat} {q : List Value}, LsE (OldB F base) w l r → r[j]? = some q → ∃ z, EAt (OldB F base) w z q := by
        intro l
        induction l with
        | nil => intro r j q h hj; simp only [LsE] at h; subst h; simp at hj
        | cons z l ih =>
          intro r j q h hj
          simp only [LsE] at h
          obtain ⟨q', r', rfl, h5, h6⟩ := h
          match j, hj with
          | 0, hj => simp at hj; subst hj; exact ⟨z, h5⟩
          | j + 1, hj => exact ih h6 (by simpa using hj)
      obtain ⟨z, hz⟩ := key h4 hj
      exact hz.one⟩

/-- append of one row that lies in a block that was made just now: what it leaves as it was. -/
theorem wpList_appGg {s : Nat} {t T : TypeId} {z : Value} {by' : Nat} (hs0 : 0 < s) (ht : Tryz.prog.underlying t = some (.slice T)) (hT : (Tryz.prog.info? T).map (fun i => (i.zero, i.size, i.bytes)) = some (some z, s, by')) (hz : z.cells.size = s) (hby : by' ≤ 1000)
    {w0 : World} {ops : Array Oper} {rest : List Oper} {o : Oper} {a : Act} {Q : Exit → Act → World → Prop} (hgd : o.guard = none) (os ox : Operand) (ho : o.op = .call { callee := .builtin .append, args := #[os, ox], argTypes := #[t, t] })
    (base : Nat) (l : List (List Value)) (y : List Value) (hys : y.length = s) (hy1 : ∀ u ∈ y, u.oneCell' = true) (v : Value) (hs : a.eval os = v) (hown : OwnG s T w0 base v l) (H : Nat) (hH : w0.heap.size = H) (hx : a.eval ox = .slice (some ⟨H, 0, none⟩) 1 1) (hn : l.length ≤ 1000000) (hbase : base ≤ w0.heap.size) (arr : Array Value) (harr : arr = y.toArray)
    (K : ∀ g' cap' w', OwnG s T w' base (.slice (some ⟨g', 0, none⟩) (l.length + 1) cap') (l ++ [y]) → (w0.alloc (.cells arr T)).grownBy w' v.ownBlock → wpList Tryz.prog ops Q rest (a.put o.dst (.slice (some ⟨g', 0, none⟩) (l.length + 1) cap')) w') :
    wpList Tryz.prog ops Q (o :: rest) a (w0.alloc (.cells arr T)) := by
  subst hH; subst harr
  obtain ⟨i0, hi, hi0, hi1, hi2⟩ := info_parts hT
  have h1a := World.ownsRow.alloc hown.1 (.cells y.toArray T)
  have hb : (l.length + 1) * by' ≤ 140737488355328 := by
    have : (l.length + 1) * by' ≤ (l.length + 1) * 1000 := Nat.mul_le_mul_left _ hby
    omega
  refine wpList_append_lies (P := Tryz.prog) _ hgd os ox t ho base T i0 z s by' ht hi hi0 hi1 hi2 hz hs0 _ l.length l.flatten hs h1a ⟨w0.heap.size, 0, none⟩ 1 1 y hx (by omega) ?_ hy1 (by omega) (by unfold maxLen; omega) hb (by simp; omega) (w0.heap.size + 1) (by simp) ?_
  · intro j u hj
    rw [Addr.add_lit, cell_of_row _ w0.heap.size _ _ _ (0, 0) (heap_alloc_new w0 _)]
    rw [Nat.zero_add, List.getElem?_toArray]; exact hj
  · intro g' cap' w' h3 h4 h5 _
    refine K g' cap' w' ⟨by simpa using h3, fun q hq => ?_⟩ h4
    rcases List.mem_append.1 hq with hq | hq
    · exact hown.2 q hq
    · simp at hq; subst hq; exact ⟨hys, hy1⟩
theorem own_is {s B n c : Nat} {T : TypeId} {w : World} {p : Option Addr} {l : List (List Value)} (h : OwnG s T w B (.slice p n c) l) : ∀ k, (Value.slice p n c).ownBlock = some k → B ≤ k ∧ ∃ cs, w.heap[k]? = some (.cells cs T (0, 0)) := fun k hk => by
  rcases h.1.2 with ⟨h1, -⟩ | ⟨g, cap, cur, h1, hb, hh, -⟩
  · rw [h1] at hk; cases hk
  · rw [h1] at hk
    have e : g = k := Option.some.inj (show some g = some k from hk)
    subst e; exact ⟨hb, cur, hh⟩
theorem agr_row {base s B n c : Nat} {T : TypeId} {a b : World} {p : Option Addr} {l : List (List Value)} (hO : OwnG s T a B (.slice p n c) l) (hB : base ≤ B) (hT : T ≠ 60) (h : a.grownBy b (Value.slice p n c).ownBlock) : Agr base (fun _ _ => False) a b := by
  have hne : ∀ g, IsD base a g → some g ≠ (Value.slice p n c).ownBlock := fun g hg e => by
    obtain ⟨-, cs, h1⟩ := own_is hO g e.symm
    obtain ⟨-, cs2, h2⟩ := hg
    rw [h1] at h2; injection h2 with h2; injection h2 with _ h2; exact hT h2
  refine ⟨h.os, h.tape, h.output, h.size, fun k hk hl => h.block k hl (fun e => by have := (own_is hO k e.symm).1; omega), fun g hg => ?_, fun g i v hg _ hc => ?_⟩
  · have hn := hne g hg
    obtain ⟨h1, cs, h2⟩ := hg
    exact ⟨h1, cs, (h.block g (hlt h2) hn).trans h2⟩
  · rw [World.cell?_of_block (w := a) (h.block g hg.lt (hne g hg))]; exact hc
/-- The kids laid anew, and the part's row turned. -/
theorem own_step {F : Nat → Prop} {base r : Nat} {x : Ex} {P : List Pd} {g o : Nat} {y : Ex} {wc w5 : World} {ph : Option Addr} {nh ch : Nat} {rows : List (List Value)} {u : Value} (hI : CpI F base r x (P ++ [(g, o, y)]) wc) (hg1 : g ≠ base + 1) (hs2 : base + 2 ≤ wc.heap.size) (hg5 : wc.grownBy w5 none)
    (hO : OwnG 8 60 w5 wc.heap.size (.slice ph nh ch) rows) (hls : LsE (OldB F base) wc (kidsE y) rows) (hD : IsD base wc g) (c6 : wc.cell? ⟨g, o + 6, none⟩ = some u) (hn : nh = (kidsE y).length) :
    ∃ h, (kidsE y ≠ [] → ph = some ⟨h, 0, none⟩ ∧ wc.heap.size ≤ h ∧ h < w5.heap.size) ∧ CpI F base r x (P ++ kidsP h (kidsE y)) (w5.setCell ⟨g, o + 6, none⟩ (.slice ph nh ch)) := by
  subst hn
  have hrl := Ls_len hls
  have hD5 := (Agr.gb (base := base) (fun _ _ => False) hg5).isd _ hD
  have hA : Agr base (fun g' i => g' = g ∧ i = o + 6) wc (w5.setCell ⟨g, o + 6, none⟩ (.slice ph (kidsE y).length ch)) := (Agr.gb (base := base) (fun _ _ => False) hg5).trans (set_agr (i := o + 6) _ hD5) _ (fun _ _ _ e => e.elim) (fun _ _ _ e => e)
  have hc6 := set_it (u := .slice ph (kidsE y).length ch) (hg5.cell c6 (by simp))
  have key : ∃ h, (kidsE y ≠ [] → ph = some ⟨h, 0, none⟩ ∧ wc.heap.size ≤ h ∧ IsD base w5 h) := by
    rcases hO.1.2 with ⟨h1, h0⟩ | ⟨k, cap, cur, h1, hb, hh, -⟩
    · exact ⟨0, fun h => by rw [hrl] at h0; exact absurd (List.eq_nil_of_length_eq_zero h0) h⟩
    · injection h1 with h1 h2 h3
      exact ⟨k, fun _ => ⟨h1, hb, by have := hI.le; omega, cur, hh⟩⟩
  obtain ⟨h, hk⟩ := key
  refine ⟨h, fun h0 => ⟨(hk h0).1, (hk h0).2.1, (hk h0).2.2.lt⟩, hI.step hg1 hs2 hA hc6 (fun h0 => ?_)⟩
  obtain ⟨h1, h2, h3⟩ := hk h0
  refine ⟨h1, h2, set_isd hD5 _ h3, fun j k hj => ?_⟩
  obtain ⟨q, hq, he⟩ := Ls_get hls hj
  obtain ⟨p', c', e, hga, -⟩ := hO.is
  injection e with e1 e2 e3
  rw [← e1, h1] at hga
  obtain ⟨g2, o2, hp2, hgl, hcs⟩ := hga.resolve_left (fun e => by rw [e] at hq; simp at hq)
  injection hp2 with hp2; injection hp2 with hp2 hp3; subst hp2 hp3
  refine ⟨q, he.one.1, fun i v hi => ?_, old_e hA he⟩
  have h9 := hcs j q hq i v hi
  rw [Nat.zero_add] at h9
  have hgh : h ≠ g := fun e => by have := hD.lt; omega
  rw [World.cell?_setCell_other _ _ _ _ (fun e => hgh (congrArg Addr.block e).symm)]; exact h9
end Go.Proofs.YtoahgeleenpnjaaGreatDoor
namespace Go.Proofs.YtoahgeleenpnjaaGreatDoor
open Go.RowKit

/-- The eight cells, each by its kind. -/
theorem EAt.form {F : Nat → Prop} {w : World} {x : Ex} {q : List Value} (h : EAt F w x q) : ∃ (op ps : Int) (a b : ByteArray) (s y : Bool) (p p' : Option Addr) (n c n' c' : Nat), q = [.int .i64 op, .string a, .string b, .bool s, .slice p n c, .bool y, .slice p' n' c', .int .i64 ps] := by
  cases x with
  | mk op nm md nu ys ks ps =>
    simp only [EAt] at h
    obtain ⟨s, pw, nw, cw, pk, ck, rows, rfl, -⟩ := h
    exact ⟨_, _, _, _, _, _, _, _, _, _, _, _, rfl⟩

end Go.Proofs.YtoahgeleenpnjaaGreatDoor
