/- Lemmas. -/
import Derived.Test.YtccokidhngdjnaaGreatDoorP32
set_option linter.unusedVariables false
set_option linter.unusedSimpArgs false
namespace Go.Proofs.YtccokidhngdjnaaGreatDoor

def grpT (T : List Tok) (nt : NxT) (s : St) : RT := ([.nd 12 ((leafT T s).1 ++ (nt.expr (leafT T s).2).1 ++ (mustT T [41] (nt.expr (leafT T s).2).2).1)], (mustT T [41] (nt.expr (leafT T s).2).2).2)
section
variable {T : List Tok} {nt : NxT} {s : St}
theorem atom_num (h : s.e = 0 ∧ (tokQ T s).kind = 3) : atomT T nt s = ([.nd 15 (leafT T s).1], (leafT T s).2) := by
  unfold atomT; rw [if_neg (by omega), if_pos h.2]
theorem tf_iff : ((isQ T [116, 114, 117, 101] s || isQ T [102, 97, 108, 115, 101] s) = true) ↔ (isQ T [116, 114, 117, 101] s = true ∨ isQ T [102, 97, 108, 115, 101] s = true) := Bool.or_eq_true_iff
theorem tf_no (h : (isQ T [116, 114, 117, 101] s || isQ T [102, 97, 108, 115, 101] s) = false) : ¬ (isQ T [116, 114, 117, 101] s = true ∨ isQ T [102, 97, 108, 115, 101] s = true) := fun e => by rw [tf_iff.2 e] at h; cases h
theorem atom_truth (h1 : ¬ (s.e = 0 ∧ (tokQ T s).kind = 3)) (h2 : (isQ T [116, 114, 117, 101] s || isQ T [102, 97, 108, 115, 101] s) = true) (he : s.e = 0) : atomT T nt s = ([.nd 16 (leafT T s).1], (leafT T s).2) := by
  unfold atomT; rw [if_neg (by omega), if_neg (fun e => h1 ⟨he, e⟩), if_pos (tf_iff.1 h2)]
theorem atom_res (he : s.e = 0) (h1 : ¬ (s.e = 0 ∧ (tokQ T s).kind = 3)) (h2 : (isQ T [116, 114, 117, 101] s || isQ T [102, 97, 108, 115, 101] s) = false) (h3 : s.inn = true ∧ isQ T [114, 101, 115] s = true) : atomT T nt s = ([.nd 17 (leafT T s).1], (leafT T s).2) := by
  unfold atomT; rw [if_neg (by omega), if_neg (fun e => h1 ⟨he, e⟩), if_neg (tf_no h2), if_pos h3]
theorem atom_grp (h1 : ¬ (s.e = 0 ∧ (tokQ T s).kind = 3)) (h2 : (isQ T [116, 114, 117, 101] s || isQ T [102, 97, 108, 115, 101] s) = false) (h3 : ¬ (s.inn = true ∧ isQ T [114, 101, 115] s = true)) (h4 : isQ T [40] s = true) : atomT T nt s = grpT T nt s := by
  have he := (is_kind h4).2
  unfold atomT; rw [if_neg (by omega), if_neg (fun e => h1 ⟨he, e⟩), if_neg (tf_no h2), if_neg h3, if_pos h4]; rfl
theorem atom_name (he : s.e = 0) (h1 : ¬ (s.e = 0 ∧ (tokQ T s).kind = 3)) (h2 : (isQ T [116, 114, 117, 101] s || isQ T [102, 97, 108, 115, 101] s) = false) (h3 : ¬ (s.inn = true ∧ isQ T [114, 101, 115] s = true)) (h4 : isQ T [40] s = false) (h5 : (tokQ T s).kind = 1) : atomT T nt s = nameT T nt s := by
  unfold atomT; rw [if_neg (by omega), if_neg (fun e => h1 ⟨he, e⟩), if_neg (tf_no h2), if_neg h3, if_neg (by rw [h4]; decide), if_pos h5]
theorem atom_none (h1 : ¬ (s.e = 0 ∧ (tokQ T s).kind = 3)) (h2 : (isQ T [116, 114, 117, 101] s || isQ T [102, 97, 108, 115, 101] s) = false) (h3 : ¬ (s.inn = true ∧ isQ T [114, 101, 115] s = true)) (h4 : isQ T [40] s = false) (h5 : ¬ (s.e = 0 ∧ (tokQ T s).kind = 1)) : Eqv ([], failQ T 22 s) (atomT T nt s) := by
  unfold atomT
  by_cases he : s.e ≠ 0
  · rw [if_pos he, fail_same T he]; exact Eqv.refl _
  · have he0 : s.e = 0 := by omega
    rw [if_neg he, if_neg (fun e => h1 ⟨he0, e⟩), if_neg (tf_no h2), if_neg h3, if_neg (by rw [h4]; decide), if_neg (fun e => h5 ⟨he0, e⟩)]; exact Eqv.refl _
end
end Go.Proofs.YtccokidhngdjnaaGreatDoor
namespace Go.Proofs.YtccokidhngdjnaaGreatDoor
open Go.RowKit

section
variable (b bb : Nat) (T : List Tok) (D n : Nat)

set_option maxRecDepth 100000 in
set_option maxHeartbeats 4000000 in
theorem negation_p (hC : TokC T) (hD : D ≤ 200) (hn : n ≤ D) (hA : SubI b bb T D n (fun _ => True) 147 (cmpT T D n (NT T D n))) (hB : n < D → SubI b bb T D (n + 1) (fun _ => True) 140 (notT T D (n + 1) (NT T D (n + 1)))) : SubI b bb T D n (fun _ => True) 140 (notT T D n (NT T D n)) := by
  intro s N vn A w hP h
  have HCC := Lib.hid hC; have HPP := Lib.hid hP
  have HSA := Lib.hid hA
  have HNB := Lib.hid (nested_negation b bb T D n hD hn (fun _ => True) _ hB)
  have HEQ := Lib.hid (fun s hk => sign_eqv T hn (sub := notT T D (n + 1) (NT T D (n + 1))) (sub' := (NT T D n).nots) (fun hlt => by rw [NT_succ T hlt]) s hk)
  have HK := Lib.hid (KX.start h)
  have HFEW := Lib.hid h.few
  have HA := Lib.hid (OutL.nil N s)
  clear h hC hP hD hn hA hB
  go_enter Tryz.func140, Tryz.ntmps140
  go_wp2_with fail
  refine (KX.at (ws := [[110, 111, 116]]) (HK.out.strs1 _ _) (List.mem_cons_self ..) (by decide)).mono ?_
  rintro e w1 ⟨rfl, hk⟩
  have HK := Lib.hid (hk.nils)
  obtain ⟨b1, hb⟩ : ∃ b1, isQ T [110, 111, 116] s = b1 := ⟨_, rfl⟩
  rw [at_one HCC.out (by decide), hb]
  have HV1 := Lib.hid hb
  clear hk hb
  cases b1
  · skip
    go_wp2_with fail
    refine (HK.out.sub HSA.out trivial).mono ?_
    rintro e w9 ⟨v9, N9, vn9, rfl, hk9, ho9, hd9⟩
    have HQ := Lib.hid (KX.fin ho9 hk9 hd9 (r' := (notT T D n (NT T D n)) s) (by rw [not_cmp HV1.out]; exact Eqv.refl _))
    clear hk9 ho9 hd9
    go_wp2_with fail
    go_ret
    exact HQ.out
  · skip
    have HLI := Lib.hid (is_kind HV1.out)
    go_wp2_with fail
    have HK := Lib.hid HK.out.drew
    go_region_held3 (fun w' => w'.cell? ⟨b, 0, none⟩ = some (.pointer (some ⟨bb, 0, none⟩))) (first | with_reducible exact HK.out.cell | with_reducible exact (HK.out.alloc _).cell | with_reducible exact ((HK.out.alloc _).alloc _).cell | with_reducible exact (((HK.out.alloc _).alloc _).alloc _).cell)
      (first
        | (go_at_call 90; (first | with_reducible refine (HK.out.take HCC.out HLI.out.1 HLI.out.2).mono ?_ | with_reducible refine ((HK.out.strs1 _ _).take HCC.out HLI.out.1 HLI.out.2).mono ?_ | with_reducible refine (((HK.out.strs1 _ _).strs1 _ _).take HCC.out HLI.out.1 HLI.out.2).mono ?_); rintro e w9 ⟨v9, N9, vn9, rfl, hk9, ho9, hd9⟩; have HK := Lib.hid hk9; have HD := Lib.hid (OutD.app HA.out ho9 hd9); have HA := Lib.hid HD.out.out; clear hk9 ho9 hd9)
        | (go_at_call 59; (first | with_reducible refine (HK.out.call (fun A h => HNB.out _ _ _ A _ trivial h)).mono ?_ | with_reducible refine ((HK.out.strs1 _ _).call (fun A h => HNB.out _ _ _ A _ trivial h)).mono ?_ | with_reducible refine (((HK.out.strs1 _ _).strs1 _ _).call (fun A h => HNB.out _ _ _ A _ trivial h)).mono ?_); rintro e w9 ⟨v9, N9, vn9, rfl, hk9, ho9, hd9⟩; have HK := Lib.hid hk9; have HD := Lib.hid (OutD.app HA.out ho9 hd9); have HA := Lib.hid HD.out.out; clear hk9 ho9 hd9)
        | (go_at_call 58; have HDW := Lib.hid (HD.out.weak (j := 0 + 1) (by decide)); refine (KX.node (k := 0) (kind := 11) (HK.out.ints2 _ _ ) ?_ HCC.out.len HDW.out ?_ HFEW.out ?_).mono ?_; exact List.mem_cons_self ..; rfl; simp; rintro e w9 ⟨v9, N9, vn9, rfl, hk9, ho9⟩; have HK := Lib.hid hk9; have HZ := Lib.hid ho9; clear hk9 ho9))
    all_goals
      have HQ := Lib.hid (KX.fin HZ.out HK.out (fun he => absurd HLI.out.2 he) (r' := (notT T D n (NT T D n)) s) (by rw [show notT T D n (NT T D n) s = signT T D n (NT T D n).nots s from if_pos HV1.out]; exact HEQ.out _ HLI.out.2))
      go_wp2_with fail
      go_ret
      exact HQ.out
end
end Go.Proofs.YtccokidhngdjnaaGreatDoor
namespace Go.Proofs.YtccokidhngdjnaaGreatDoor
open Go.RowKit

theorem froz_of {W : World} {r : Nat} {cs : Array Value} {T : TypeId} (h : W.heap[r]? = some (.cells cs T (0, 0))) (o : Nat) : W.frozen? ⟨r, o, none⟩ = false := by simp [World.frozen?, h]
theorem fr_cells {S : Nat → Prop} {b : Nat} (hb : S b) : ∀ (vs : List Value) (o : Nat) (w w0 : World), Fr2 S w0 w → Fr2 S w0 (w.setCells b o vs)
  | [], o, w, w0, h => h
  | v :: r, o, w, w0, h => fr_cells hb r (o + 1) _ w0 (h.setCell hb v)
/-- A fresh block of cells, all laid anew. -/
theorem fresh_cells (w : World) (zs cs : Array Value) (T : TypeId) (hs : zs.size = cs.size) :
    (w.alloc (.cells zs T)).there w.heap.size 0 cs.size ∧ w.grownBy ((w.alloc (.cells zs T)).setCells w.heap.size 0 cs.toList) none ∧ ∀ (j : Nat) (v : Value), cs.toList[j]? = some v → ((w.alloc (.cells zs T)).setCells w.heap.size 0 cs.toList).cell? ⟨w.heap.size, j, none⟩ = some v := by
  have hbk := heap_alloc_new w (.cells zs T)
  have hc : ∀ j (hj : j < cs.size), ((w.alloc (.cells zs T)).cell? ⟨w.heap.size, j, none⟩).isSome = true := fun j hj => by
    rw [cell_of_row _ w.heap.size j _ _ (0, 0) hbk, Array.getElem?_eq_getElem (by omega)]; rfl
  refine ⟨fun j hj => ⟨by rw [Nat.zero_add]; exact hc j hj, froz_of hbk _⟩, ?_, fun j v hj => ?_⟩
  · refine below_gb ?_
    have h1 := fr_cells (S := fun k => w.heap.size ≤ k) (Nat.le_refl _) cs.toList 0 _ w (Fr2.none (World.grownBy_alloc w (.cells zs T) none))
    exact h1.below (Nat.le_refl _) (fun k hk => hk)
  · obtain ⟨hj1, rfl⟩ := List.getElem?_eq_some_iff.1 hj
    have := World.cell?_setCells_in w.heap.size cs.toList 0 (w.alloc (.cells zs T)) (fun i hi => by rw [Nat.zero_add]; exact hc i (by simpa using hi)) j hj1
    rw [Nat.zero_add] at this
    exact this
set_option maxRecDepth 100000 in
set_option maxHeartbeats 16000000 in
theorem rlevel_c (op : Int) (h1 : 1 ≤ op) (h2 : op ≤ 24) (w : World) : Calls Tryz.prog 35 #[.int .i64 op] w (NumPost (levS op) w) := by
  obtain ⟨n, rfl⟩ : ∃ n : Nat, op = n := ⟨op.toNat, by omega⟩
  obtain ⟨cs, hcs⟩ : ∃ cs : Array Value, #[Value.int .i64 0, .int .i64 9, .int .i64 9, .int .i64 9, .int .i64 9, .int .i64 8, .int .i64 4, .int .i64 6, .int .i64 6, .int .i64 7, .int .i64 7, .int .i64 7, .int .i64 5, .int .i64 5, .int .i64 5, .int .i64 5, .int .i64 5, .int .i64 5, .int .i64 3, .int .i64 2, .int .i64 1, .int .i64 0, .int .i64 0, .int .i64 0, .int .i64 9] = cs := ⟨_, rfl⟩
  have hsz : cs.size = 25 := by rw [← hcs]; rfl
  have hone : cs.all (·.oneCell') = true := by rw [← hcs]; kernel_rfl
  have hat : cs.toList[n]? = some (.int .i64 (levS n)) := by
    rw [← hcs]
    have : n = 1 ∨ n = 2 ∨ n = 3 ∨ n = 4 ∨ n = 5 ∨ n = 6 ∨ n = 7 ∨ n = 8 ∨ n = 9 ∨ n = 10 ∨ n = 11 ∨ n = 12 ∨ n = 13 ∨ n = 14 ∨ n = 15 ∨ n = 16 ∨ n = 17 ∨ n = 18 ∨ n = 19 ∨ n = 20 ∨ n = 21 ∨ n = 22 ∨ n = 23 ∨ n = 24 := by omega
    rcases this with rfl | rfl | rfl | rfl | rfl | rfl | rfl | rfl | rfl | rfl | rfl | rfl | rfl | rfl | rfl | rfl | rfl | rfl | rfl | rfl | rfl | rfl | rfl | rfl <;> rfl
  obtain ⟨l, hl⟩ : ∃ l : Nat, levS (n : Int) = l := ⟨_, rfl⟩
  rw [hl] at hat ⊢
  have HO := Lib.hid hone; have HS := Lib.hid hsz; have HA := Lib.hid hat
  clear hone hsz hat hl
  go_enter Tryz.func35, Tryz.ntmps35
  go_upto_region 1 with fail
  refine wp_region_lit ?_
  refine wpList_plain rfl (fun K hK => ?_)
  go_simp
  refine hK _ _ ?_
  clear hK
  refine wpList_plain rfl (fun K hK => ?_)
  go_simp
  refine hK _ _ ?_
  clear hK
  generalize hzs : #[Value.int .i64 0, .int .i64 0, .int .i64 0, .int .i64 0, .int .i64 0, .int .i64 0, .int .i64 0, .int .i64 0, .int .i64 0, .int .i64 0, .int .i64 0, .int .i64 0, .int .i64 0, .int .i64 0, .int .i64 0, .int .i64 0, .int .i64 0, .int .i64 0, .int .i64 0, .int .i64 0, .int .i64 0, .int .i64 0, .int .i64 0, .int .i64 0, .int .i64 0] = zs
  have hzz : zs.size = cs.size := by rw [HS.out, ← hzs]; rfl
  obtain ⟨hth, hg, hcl⟩ := fresh_cells w zs cs 118 hzz
  have hc := hcl n _ HA.out
  clear hzs hcs hcl hzz
  refine wpList_store_mid rfl 118 (Operand.tmp 3) (Operand.tmp 4) rfl w.heap.size 0 cs rfl rfl hth (by rw [HS.out]; kernel_rfl) HO.out ?_
  clear hth
  generalize (w.alloc (.cells zs 118)).setCells w.heap.size 0 cs.toList = W at *
  have HG := Lib.hid hg
  clear hg
  have x1 : (0 : Int) ≤ (n : Int) := by omega
  have x2 : (n : Int) < 25 := by omega
  have x3 : decide (n < 25) = true := decide_eq_true (by omega)
  go_wp2_with fail
  go_ret
  exact ⟨rfl, HG.out⟩
end Go.Proofs.YtccokidhngdjnaaGreatDoor
