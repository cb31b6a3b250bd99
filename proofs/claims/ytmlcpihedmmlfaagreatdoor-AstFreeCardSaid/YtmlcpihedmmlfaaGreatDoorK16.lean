/- What Free's closure does when it is told a free name: it is appended. -/
import Derived.Test.YtmlcpihedmmlfaaGreatDoorK15
set_option linter.unusedVariables false
set_option linter.unusedSimpArgs false
namespace Go.Proofs.YtmlcpihedmmlfaaGreatDoor
open Go.RowKit

theorem own_cells {s : Nat} {T : TypeId} {w : World} {base : Nat} {v : Value} {l : List (List Value)} (h : OwnG s T w base v l) : ∀ k, v.ownBlock = some k → base ≤ k ∧ k < w.heap.size ∧ ∃ cur, w.heap[k]? = some (.cells cur T (0, 0)) := fun k hk => by
  refine ⟨(OwnG.at h k hk).1, (OwnG.at h k hk).2, ?_⟩
  rcases h.1.2 with ⟨rfl, -⟩ | ⟨g, cap, cur, rfl, hb, hh, -⟩
  · cases hk
  · have e : g = k := Option.some.inj (show some g = some k from hk)
    subst e; exact ⟨cur, hh⟩
theorem fr_add {b g9 cap9 : Nat} {s : FrS} {w w2 w9 : World} {k : List UInt8} {pv : Option Addr} {nv cv : Nat} (hp : PFr b s w) (hsl : w.heap[b + 1]? = some (.cells #[.slice pv nv cv] 38 (0, 0))) (hO : OwnG 1 9 w (b + 4) (.slice pv nv cv) (rowW s.out)) (hg2 : w.grownBy w2 none)
    (hO9 : OwnG 1 9 w9 (b + 4) (.slice (some ⟨g9, 0, none⟩) ((rowW s.out).length + 1) cap9) (rowW s.out ++ [[.string ⟨k.toArray⟩]])) (hg9 : (w2.alloc (.cells #[.string ⟨k.toArray⟩] 9)).grownBy w9 (Value.slice pv nv cv).ownBlock) :
    FrPost b ⟨s.out ++ [k], s.bd, s.n + 1⟩ w (.returned (.tuple #[])) (w9.setCell ⟨b + 1, 0, none⟩ (.slice (some ⟨g9, 0, none⟩) ((rowW s.out).length + 1) cap9)) := by
  obtain ⟨h1, h2, ⟨D, ⟨es, clock, h3, h3r⟩, h4⟩, -, h7, h8⟩ := hp
  have hoc := own_cells hO
  have ga : w2.grownBy (w2.alloc (.cells #[.string ⟨k.toArray⟩] 9)) none := World.grownBy_alloc _ _ none
  have fr9 : Fr2 (fun j => j = b + 1 ∨ (Value.slice pv nv cv).ownBlock = some j) w w9 := (Fr2.none (gb_trans hg2 ga)).trans (Fr2.of hg9 (fun j e => .inr e))
  have fr : Fr2 (fun j => j = b + 1 ∨ (Value.slice pv nv cv).ownBlock = some j) w (w9.setCell ⟨b + 1, 0, none⟩ (.slice (some ⟨g9, 0, none⟩) ((rowW s.out).length + 1) cap9)) := fr9.trans (Fr2.setCell (Fr2.refl _ _) (.inl rfl) _)
  have hsl9 : w9.heap[b + 1]? = some (.cells #[.slice pv nv cv] 38 (0, 0)) := by
    have e1 := bx (gb_trans hg2 ga) hsl
    exact (hg9.block (b + 1) (hlt e1) (fun e => by have := (hoc _ e.symm).1; omega)).trans e1
  have hX : ∀ j, j = b + 2 ∨ j = b + 3 → ¬ (j = b + 1 ∨ (Value.slice pv nv cv).ownBlock = some j) := fun j hj e => by
    rcases e with e | e
    · omega
    · have := (hoc _ e).1; omega
  refine ⟨rfl, ⟨Nat.le_trans h1 fr.size, fr.keep h2 (hX _ (.inr rfl)), ⟨D, ⟨es, clock, fr.keep h3 (hX _ (.inl rfl)), h3r.1, by have := h3r.2.1; simp only; omega, h3r.2.2⟩, h4⟩, ⟨some ⟨g9, 0, none⟩, _, cap9, set_cells (i := 0) (u := .slice (some ⟨g9, 0, none⟩) ((rowW s.out).length + 1) cap9) hsl9, ?_⟩, fun m => ?_, by simp only [List.length_append, List.length_singleton]; omega⟩, ?_, ?_⟩
  · rw [rowW_snoc]
    exact hO9.keptS (Fr2.setCell (S := fun j => j = b + 1) (Fr2.refl _ _) (g := b + 1) (j := 0) rfl _) (fun j hj e => by omega)
  · have := h7 m
    simp only
    omega
  · exact Below.setCell (B := b + 1) (Below.grown (B := b + 1) (Below.gb (gb_trans hg2 ga) (by omega)) hg9 (by have := (gb_trans hg2 ga).size; omega) (fun j e => by have := (hoc _ e).1; omega)) (Nat.le_refl _) _
  · intro j cs hj
    refine fr.keep hj (fun e => ?_)
    rcases e with e | e
    · subst e; rw [hsl] at hj; injection hj with hj; injection hj with _ hj; exact absurd hj (by decide)
    · obtain ⟨-, -, cur, hc⟩ := hoc _ e
      rw [hc] at hj; injection hj with hj; injection hj with _ hj; exact absurd hj (by decide)

set_option maxRecDepth 100000 in
set_option maxHeartbeats 16000000 in
theorem free1_add (F : Nat → Prop) (b : Nat) (s : FrS) (f : Fm) (w : World) (hp : PFr b s w) (hx : PAtE F w f.g f.o f.x) (hq : QFr f.x) (hl : LFr (stF s f.x f.d)) (h1 : opE f.x = 3) (h2 : f.d = 0) (h3 : s.bd (nmX f.x) = 0) :
    Calls Tryz.prog 81 #[.pointer (some ⟨f.g, f.o, none⟩), .int .i64 (f.d : Int), .pointer (some ⟨b + 3, 0, none⟩), .pointer (some ⟨b + 1, 0, none⟩)] w (FrPost b (stF s f.x f.d) w) := by
  have hst := stF_add h1 h2 h3
  obtain ⟨pk, ck, c0, c1, c6⟩ := fr_cells hx
  have hgl := hx.2.1
  have hp0 := hp
  obtain ⟨hb4, hbx, ⟨D, hD, hat⟩, ⟨pv, nv, cv, hsl, hO⟩, -, hon⟩ := hp
  have hsz : (nmX f.x).length ≤ 1000000 := hq.2
  have hrun := fun n => look_fr hD hat hsz (gb_drewN (gb_refl w none) n)
  rw [h3] at hrun
  have HRL : Hid ((rowW s.out).length ≤ 1000000) := Lib.hid (by rw [rowW_len]; unfold LFr at hl; rw [hst] at hl; simp only at hl; omega)
  have HPO := Lib.hid (fun w2 w9 g9 cap9 h1 h2 h3 => fr_add (w2 := w2) (w9 := w9) (g9 := g9) (cap9 := cap9) (k := nmX f.x) hp0 hsl hO h1 h2 h3)
  rw [← hst] at HPO
  have HOC := Lib.hid (own_cells hO)
  have hnl : nv = (rowW s.out).length := by obtain ⟨p', c', e, -⟩ := hO.is; injection e
  have HO := Lib.hid hO; have HSL := Lib.hid hsl; have HBX := Lib.hid hbx
  have HNL := Lib.hid hnl
  have x3 := cell_of_row w (b + 3) 0 _ _ (0, 0) hbx
  have x3 : w.cell? ⟨b + 3, 0, none⟩ = some (.map (some (b + 2))) := x3
  have x1 := cell_of_row w (b + 1) 0 _ _ (0, 0) hsl
  have x1 : w.cell? ⟨b + 1, 0, none⟩ = some (.slice pv nv cv) := x1
  have hb3 : b + 3 < w.heap.size := by omega
  have hb1 : b + 1 < w.heap.size := by omega
  have HB4 := Lib.hid hb4
  have HCL := Lib.hid (fun W => Clone_c ⟨(nmX f.x).toArray⟩ W (by rw [← list_len]; show (nmX f.x).length ≤ _; omega))
  obtain ⟨B4, hB4⟩ : ∃ B4, b + 4 = B4 := ⟨_, rfl⟩
  obtain ⟨B3, hB3⟩ : ∃ B3, b + 3 = B3 := ⟨_, rfl⟩
  obtain ⟨B2, hB2⟩ : ∃ B2, b + 2 = B2 := ⟨_, rfl⟩
  obtain ⟨B1, hB1⟩ : ∃ B1, b + 1 = B1 := ⟨_, rfl⟩
  have HB14 : Hid (B1 < B4) := Lib.hid (by omega)
  obtain ⟨y, hy⟩ : ∃ y : ByteArray, (⟨(nmX f.x).toArray⟩ : ByteArray) = y := ⟨_, rfl⟩
  obtain ⟨fg, hfg⟩ : ∃ fg, f.g = fg := ⟨_, rfl⟩
  obtain ⟨fo, hfo⟩ : ∃ fo, f.o = fo := ⟨_, rfl⟩
  obtain ⟨LI, hLI⟩ : ∃ LI, rowW s.out = LI := ⟨_, rfl⟩
  rw [hLI] at HRL HPO HO HNL
  rw [hB2] at x3 hrun
  rw [hB3] at x3 hb3 HBX
  rw [hB1] at x1 hb1 HPO HSL
  rw [hB4] at HO HPO HOC HB4
  rw [hy] at hrun c1 HCL HPO
  rw [hfg, hfo] at c0 c1
  rw [h1] at c0
  rw [hfg] at hgl
  rw [hfg, hfo, h2, hB3, hB1]
  rw [h2] at HPO
  generalize FrPost b (stF s f.x 0) w = PO at HPO ⊢
  clear hx hq hb4 hbx hD hat hB2 hy hfg hfo hsz hB3 hB1 hB4 hp0 hO hsl hLI hon hl hst h1 h2 h3 hnl c6
  go_enter Tryz.func81, Tryz.ntmps81
  go_wp2_with fail
  go_quiet (fail)
  have hgd := gb_drewN (gb_refl w none) nq
  have HO := Lib.hid (HO.out.kept hgd); have HSL := Lib.hid (bx hgd HSL.out)
  have c1 : (w.drewN nq).cell? ⟨fg, fo + 1, none⟩ = some (.string y) := c1
  have x1 : (w.drewN nq).cell? ⟨B1, 0, none⟩ = some (.slice pv nv cv) := x1
  have hgl : fg < (w.drewN nq).heap.size := hgl
  have hb1 : B1 < (w.drewN nq).heap.size := hb1
  have HB4 : Hid (B4 ≤ (w.drewN nq).heap.size) := HB4
  have HGD := Lib.hid hgd
  have HPO := Lib.hid (fun w2 w9 g9 cap9 (h : (w.drewN nq).grownBy w2 none) h2 h3 => HPO.out w2 w9 g9 cap9 (gb_trans HGD.out h) h2 h3)
  clear hrun x3 hb3 hgd HGD
  generalize w.drewN nq = W at *
  go_wp2_with fail
  go_region_law (first
    | (refine step_appGl (s := 1) (t := 38) (T := 9) (by decide) Tryz.underlying38 infoSt rfl (by omega) rfl _ _ rfl B4 LI [.string y] rfl (by simp [Value.oneCell']) (.slice pv nv cv) rfl (OwnG.kept HO2.out (by repeat (first | with_reducible exact gb_refl _ _ | with_reducible refine gb_drew ?_ | with_reducible refine gb_drewN ?_ _ | with_reducible refine gb_alloc ?_ _))) w2.heap.size _ rfl (by exact HNEW.out) rfl HRL.out (by have := HS2.out; simp <;> omega) (w2.heap.size + 1) (by simp) ?_; intro g9 cap9 w9 hO9 hg9 hl9; have hb9 := (hg9.block B1 (by simp <;> omega) (fun e => by have := (HOC.out _ e.symm).1; have := HB14.out; omega)).trans (show _ = _ from bx (show w2.grownBy _ none from (by repeat (first | with_reducible exact gb_refl _ _ | with_reducible refine gb_drew ?_ | with_reducible refine gb_drewN ?_ _ | with_reducible refine gb_alloc ?_ _))) HSL2.out); have hc9 := cell_of_row w9 B1 0 _ _ (0, 0) hb9; have hf9 : w9.frozen? ⟨B1, 0, none⟩ = false := (by simp [World.frozen?, hb9]); have hb1 : B1 < w9.heap.size := hlt hb9; have HO9 := Lib.hid hO9; have HG9' := Lib.hid hg9; clear hb9 hO9 hg9 hl9)
    | (go_simp; go_at_call 41; refine (HCL.out _).mono ?_; rintro e w2 ⟨rfl, hg2⟩; have HG2 := Lib.hid (gb_trans (show W.grownBy _ none from (by repeat (first | with_reducible exact gb_refl _ _ | with_reducible refine gb_drew ?_ | with_reducible refine gb_drewN ?_ _ | with_reducible refine gb_alloc ?_ _))) hg2); have HO2 := Lib.hid (HO.out.kept HG2.out); have HSL2 := Lib.hid (bx HG2.out HSL.out); have x1 := HG2.out.cell x1 (by simp); have hb1 := Nat.lt_of_lt_of_le hb1 HG2.out.size; have HS2 : Hid (B4 ≤ w2.heap.size) := Lib.hid (Nat.le_trans HB4.out HG2.out.size); have HNEW := Lib.hid (heap_alloc_new w2 (.cells #[.string y] 9)); clear hg2))
  all_goals
    have HE := Lib.hid (HPO.out w2 w9 g9 cap9 HG2.out HO9.out HG9'.out)
    go_wp2_with fail
    refine bodyPost_end (results_none rfl _ _ _) rfl ?_
    exact HE.out
end Go.Proofs.YtmlcpihedmmlfaaGreatDoor
