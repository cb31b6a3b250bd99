/- The program's parser: parameters and definitions. -/
import Derived.Test.YthclkbaankjbiaaGreatDoorPClause
namespace Go.Proofs.YthclkbaankjbiaaGreatDoor
open Go.RowKit

theorem typed_inn {T : List Tok} {D : Nat} (s : St) (h : s.inn = false) : (typedT T (NT T D 0).expr s).2.inn = false := by
  unfold typedT typCT
  have hb : (typBT T (mustT T [58] s)).2.inn = false := by
    unfold typBT
    have h1 := (must_keep T [58] s).inn
    split
    · rename_i hk
      have hl : (mustT T [58] s).2.e = 0 := by rcases hk with hk | hk <;> exact (is_kind hk).2
      exact (leaf_keep T hl).inn.trans (h1.trans h)
    · exact (fail_keep T 22 (mustT T [58] s).2 []).inn.trans (h1.trans h)
  split
  · exact (must_keep T [125] _).inn
  · exact hb
theorem typed_dead {T : List Tok} {D : Nat} (s : St) (h : s.e ≠ 0) : (typedT T (NT T D 0).expr s).2 = s := by
  have h1 := (must_keep T [58] s).dead h
  unfold typedT typCT typBT
  have n1 : ∀ x, isQ T x (mustT T [58] s).2 = false := fun x => is_live (by rw [h1]; exact h)
  have hb : ¬ (isQ T [105, 110, 116] (mustT T [58] s).2 = true ∨ isQ T [98, 111, 111, 108] (mustT T [58] s).2 = true) := by rw [n1, n1]; decide
  have hf : failQ T 22 (mustT T [58] s).2 = s := by rw [h1, fail_same T h]
  rw [if_neg hb]
  show (if isQ T [123] (failQ T 22 (mustT T [58] s).2) = true then _ else _ : RT).2 = s
  rw [hf, if_neg (by rw [is_live h]; decide)]
theorem par_inn {T : List Tok} {D : Nat} (s : St) (h : s.inn = false) : (parT T (NT T D 0).expr s).2.inn = false := typed_inn _ ((kind_keep T 1 s).inn.trans h)
theorem par_dead {T : List Tok} {D : Nat} (s : St) (h : s.e ≠ 0) : (parT T (NT T D 0).expr s).2 = s := by
  have h1 := (kind_keep T 1 s).dead h
  show (typedT T (NT T D 0).expr (kindT T 1 s).2).2 = s
  rw [typed_dead _ (by rw [h1]; exact h), h1]

section
variable (b bb : Nat) (T : List Tok) (D : Nat)

set_option maxRecDepth 100000 in
set_option maxHeartbeats 8000000 in
theorem params_f (hC : TokC T) (hX : SubI b bb T D 0 (fun s => s.inn = false ∧ isQ T [123] s = true) 104 (clauseT T (NT T D 0).expr)) : SubF b bb T D 0 (fun s => s.inn = false) 103 (parT T (NT T D 0).expr) := by
  intro A0 vn0 w0 w s N vn L g hP hk hm
  have HCC := Lib.hid hC
  have HTY := Lib.hid (fun (w : World) (s : St) (N : List Nd) (vn : Value) (L : List (Value × Th)) (hk : KX b bb T D 0 A0 vn0 w0 w s s.i N vn L) (hi : s.inn = false) => typed_p b bb T D hC hX hk hi)
  have HK := Lib.hid hk; have HM := Lib.hid hm
  have HFEW := Lib.hid hk.room
  have HIN : Hid ((kindT T 1 s).2.inn = false) := Lib.hid ((kind_keep T 1 s).inn.trans hP)
  have HDT : Hid (s.e ≠ 0 → (parT T (NT T D 0).expr s).2.e ≠ 0) := Lib.hid (fun h => by rw [par_dead s h]; exact h)
  have c0 := hk.boxc hm
  have HA := Lib.hid (OutL.nil N s)
  clear hC hX hk hP hm
  go_enter Tryz.func103, Tryz.ntmps103
  go_wp2_with fail
  have HKD := HK
  have HK := Lib.hid HK.out.drew
  go_region_held3 (fun w' => w'.cell? ⟨g, 0, none⟩ = some (.pointer (some ⟨b, 0, none⟩))) (first | exact HK.out.boxc HM.out | exact HK.out.boxc (List.mem_cons_of_mem _ HM.out) | exact HK.out.boxc (List.mem_cons_of_mem _ (List.mem_cons_of_mem _ HM.out)) | exact (HK.out.alloc _).boxc HM.out | exact (HK.out.alloc _).boxc (List.mem_cons_of_mem _ HM.out))
    (first
      | (refine step_kx rfl _ _ rfl HK.out (List.sublist_cons_self _ _) rfl rfl (l2 := ls7) rfl HVV.out (by simp) (by have := HL7.out; omega) ?_; intro kv4 w9 hk9; have HK := Lib.hid hk9; clear hk9)
      | (refine step_kx rfl _ _ rfl (HK.out.ints1 _) (List.Sublist.cons_cons _ (List.sublist_cons_self _ _)) rfl rfl (l2 := ls7) rfl (HVA.out _) (by simp) (by have := HL7.out; omega) ?_; intro kv4 w9 hk9; have HK := Lib.hid hk9; clear hk9)
      | (go_at_call 41; (with_reducible refine (HK.out.word HCC.out).mono ?_); rintro e w9 ⟨v9, N9, vn9, rfl, hk9, ho9, hd9⟩; have HK := Lib.hid hk9; have HA := Lib.hid (HA.out.app ho9.out hd9); clear hk9 ho9 hd9)
      | (go_at_call 71; (first | with_reducible refine (HTY.out _ _ _ _ _ HK.out HIN.out).mono ?_ | with_reducible refine (HTY.out _ _ _ _ _ (HK.out.ints1 _) HIN.out).mono ?_); rintro e w9 ⟨lv, ls7, N8, vn8, rfl, hk9, ho9, hd9, hl9⟩; obtain ⟨q7, c7, rfl, hv7, -, -⟩ := hk9.list (List.mem_cons_self ..); have HK := Lib.hid hk9; have HVV := Lib.hid hv7; have HVA := Lib.hid (fun o => hv7.kept (gb_alloc (gb_refl w9 none) o)); have HL7 := Lib.hid hl9; have HD := Lib.hid (OutD.app HA.out ho9 hd9); clear hk9 ho9 hd9 hl9 hv7))
  all_goals
    obtain ⟨l9, hl9⟩ : ∃ l9, [v9] ++ ls7 = l9 := ⟨_, rfl⟩
    have HLN : Hid (l9.length ≤ 310) := Lib.hid (by rw [← hl9, List.length_append]; have := HL7.out; simp; omega)
    have HK : Hid (KX b bb T D 0 A0 vn0 w0 w9 (typedT T (NT T D 0).expr (kindT T 1 s).2).2 (typedT T (NT T D 0).expr (kindT T 1 s).2).2.i N8 vn8 ((kv4, .ints l9) :: L)) := Lib.hid (by
      have h9 := HK.out.few (L' := (kv4, .ints ([v9] ++ ls7)) :: L) (by first | exact List.Sublist.refl _ | exact List.Sublist.cons_cons _ (List.sublist_cons_self _ _))
      rw [hl9] at h9; exact h9)
    have HOL : Hid (OutD (0 + 1) N s ((kindT T 1 s).1 ++ (typedT T (NT T D 0).expr (kindT T 1 s).2).1, (typedT T (NT T D 0).expr (kindT T 1 s).2).2) N8 l9) := Lib.hid (by rw [← hl9]; exact HD.out.weak (by decide))
    clear hl9 HA HD
    have c0 := HK.out.boxc (List.mem_cons_of_mem _ HM.out)
    have d0 := HK.out.cell
    go_wp2_with fail
    refine (KX.node (k := 0) (kind := 4) HK.out (List.mem_cons_self ..) HCC.out.len HOL.out rfl HFEW.out (by have := HLN.out; omega)).mono ?_
    rintro e w8 ⟨v6, N6, vn6, rfl, hk6, ho6⟩
    have HQ : Hid (CPost b bb T D 0 0 A0 vn0 w0 s (parT T (NT T D 0).expr s) N L (.returned (.int .i64 v6)) w8) := Lib.hid ⟨v6, N6, vn6, rfl, hk6.few (List.sublist_cons_self _ _), ho6, HDT.out⟩
    clear hk6 ho6 c0 d0
    go_wp2_with fail
    go_ret
    exact HQ.out
--TAIL
end
end Go.Proofs.YthclkbaankjbiaaGreatDoor
