/- What Free's closure does at a let: its name is bound, or no longer; the closure whole; Free's walk. -/
import Derived.Test.YtmlcpihedmmlfaaGreatDoorK16
import Derived.Shelf.Sort.Plain
import Derived.Shelf.Slices.Equal
import Derived.Ground.Names2Prog
import Derived.Shelf.Slices.Clone
import Derived.Shelf.Slices.CompactS
import Derived.Shelf.Slices.Cells
import Derived.Shelf.Slices.In.SortNone
import Derived.Shelf.Slices.Empties2
import Derived.Ground.SlgnProg
import Derived.Shelf.SlicesE.Clone
import Derived.Test.YtmlcpihedmmlfaaGreatDoorK1
set_option linter.unusedVariables false
set_option linter.unusedSimpArgs false
namespace Go.Proofs.YtmlcpihedmmlfaaGreatDoor
open Go.RowKit

theorem fr_turn {b : Nat} {s : FrS} {w w' : World} {k : List UInt8} {d : Int} {D : DataW Unit} (hp : PFr b s w) (hD : w.ownsMap Tryz.prog 9 (plainElem Tryz.prog 3) (b + 2) s.n D) (hat : ∀ k, D.atKey (.string k) (.lit (.int .i64 0)) = .lit (.int .i64 (s.bd k))) (hd : -1 ≤ d ∧ d ≤ 1) (hg : w.grownBy w' (some (b + 2)))
    (ho : w'.ownsMap Tryz.prog 9 (plainElem Tryz.prog 3) (b + 2) (s.n + 1) (D.put (.string k) (.lit (.int .i64 (s.bd k + d))))) : FrPost b ⟨s.out, bump s.bd k d, s.n + 1⟩ w (.returned (.tuple #[])) w' := by
  obtain ⟨h1, h2, -, ⟨pv, nv, cv, h5, h6⟩, h7, h8⟩ := hp
  have hM := hD.isMap
  refine ⟨rfl, ⟨Nat.le_trans h1 hg.size, (hg.block _ (hlt h2) (by simp)).trans h2, ⟨_, ho, fun m => ?_⟩, ⟨pv, nv, cv, (hg.block _ (hlt h5) (by simp)).trans h5, h6.keptR hg (fun j hj e => by have := (OwnG.at h6 j hj).1; injection e with e; omega)⟩, fun m => ?_, by simp only; omega⟩, ?_, ?_⟩
  · unfold bump
    simp only
    by_cases hm : m = k
    · subst hm
      rw [if_pos rfl, Maps.atKey_put_same hM (by trivial)]
    · rw [if_neg hm, Maps.atKey_put_other (fun e => hm (by injection e))]
      exact hat m
  · unfold bump
    have a := h7 m; have b := h7 k
    simp only
    split <;> omega
  · exact Below.grown (B := b + 1) (Below.refl _ _) hg (by omega) (fun j e => by injection e with e; omega)
  · intro g cs hc
    refine (hg.block g (hlt hc) (fun e => ?_)).trans hc
    injection e with e
    subst e
    obtain ⟨es, clock, h3, -⟩ := hD
    rw [h3] at hc; cases hc

set_option maxRecDepth 100000 in
set_option maxHeartbeats 16000000 in
theorem free1_up (F : Nat → Prop) (b : Nat) (s : FrS) (f : Fm) (w : World) (hp : PFr b s w) (hx : PAtE F w f.g f.o f.x) (hq : QFr f.x) (hl : LFr (stF s f.x f.d)) (hdm : (kidsE f.x).length ≤ 1000000) (h1 : opE f.x = 22) (h2 : f.d = 1) (h3 : 1 < (kidsE f.x).length) :
    Calls Tryz.prog 81 #[.pointer (some ⟨f.g, f.o, none⟩), .int .i64 (f.d : Int), .pointer (some ⟨b + 3, 0, none⟩), .pointer (some ⟨b + 1, 0, none⟩)] w (FrPost b (stF s f.x f.d) w) := by
  have hst := stF_up (s := s) h1 h2 h3
  have hn1 : s.n ≤ 1000000 := by have h := (stF_n s f.x f.d).1; unfold LFr at hl; omega
  obtain ⟨pk, ck, c0, c1, c6⟩ := fr_cells hx
  have hgl := hx.2.1
  have hp0 := hp
  obtain ⟨hb4, hbx, ⟨D, hD, hat⟩, -, hbd, hon⟩ := hp
  have hsz : (nmX f.x).length ≤ 1000000 := hq.2
  have hcb := hbd (nmX f.x)
  have HDD := Lib.hid (fun (n : Nat) => (hD.kept (gb_drewN (gb_refl w none) n) (by simp) : (w.drewN n).ownsMap _ _ _ _ _ D))
  have hrun := fun n => look_fr hD hat hsz (gb_drewN (gb_refl w none) n)
  have HRU := Lib.hid hrun
  have HUP : Hid (∀ W : World, W.ownsMap Tryz.prog 9 (plainElem Tryz.prog 3) (b + 2) s.n D → ∃ W', (Instr.mapUpdate 146 (.map (some (b + 2))) (.string ⟨(nmX f.x).toArray⟩) (.int .i64 (s.bd (nmX f.x) + 1))).run Tryz.prog W = .ok () W' ∧ W'.ownsMap Tryz.prog 9 (plainElem Tryz.prog 3) (b + 2) (s.n + 1) (D.put (.string (nmX f.x)) (.lit (.int .i64 (s.bd (nmX f.x) + 1)))) ∧ W.grownBy W' (some (b + 2))) := Lib.hid (fun W hW => hW.update str_key Tryz.underlying146 (by unfold maxLen; omega) (key_of (nmX f.x) hsz) (plainElem_int Tryz.underlying3 (wf_small (by omega) (by omega))))
  have HPO := Lib.hid (fun w' hg ho => fr_turn (w' := w') (k := nmX f.x) (d := 1) hp0 hD hat (by omega) hg ho)
  rw [← hst] at HPO
  have x3 := cell_of_row w (b + 3) 0 _ _ (0, 0) hbx
  have x3 : w.cell? ⟨b + 3, 0, none⟩ = some (.map (some (b + 2))) := x3
  have hb3 : b + 3 < w.heap.size := by omega
  obtain ⟨c, hc⟩ : ∃ c, s.bd (nmX f.x) = c := ⟨_, rfl⟩
  obtain ⟨B3, hB3⟩ : ∃ B3, b + 3 = B3 := ⟨_, rfl⟩
  obtain ⟨B2, hB2⟩ : ∃ B2, b + 2 = B2 := ⟨_, rfl⟩
  obtain ⟨y, hy⟩ : ∃ y : ByteArray, (⟨(nmX f.x).toArray⟩ : ByteArray) = y := ⟨_, rfl⟩
  obtain ⟨fg, hfg⟩ : ∃ fg, f.g = fg := ⟨_, rfl⟩
  obtain ⟨fo, hfo⟩ : ∃ fo, f.o = fo := ⟨_, rfl⟩
  obtain ⟨kn, hkn⟩ : ∃ kn, (kidsE f.x).length = kn := ⟨_, rfl⟩
  rw [hc] at HUP HRU HPO hcb
  rw [hB2] at x3 HRU HUP HPO HDD
  rw [hB3] at x3 hb3
  rw [hy] at HRU c1 HUP
  rw [hfg, hfo] at c0 c1 c6
  rw [hkn] at c6 h3 hdm
  rw [h1] at c0
  rw [hfg] at hgl
  rw [hfg, hfo, h2, hB3]
  rw [h2] at HPO
  obtain ⟨D2, hD2⟩ : ∃ D2, D.put (.string (nmX f.x)) (.lit (.int .i64 (c + 1))) = D2 := ⟨_, rfl⟩
  rw [hD2] at HUP HPO
  generalize FrPost b (stF s f.x 1) w = PO at HPO ⊢
  have hw1 : IntKind.i64.wrap (c + 1) = c + 1 := IntWalk.i64_in _ (by omega)
  have k1 : decide ((1 : Int) < (kn : Int)) = true := decide_eq_true (by omega)
  have k2 : decide (1 < kn) = true := decide_eq_true h3
  clear hx hq hb4 hbx hD hat hB2 hy hfg hfo hsz hB3 hp0 hon hl hst h1 h2 h3 hrun hbd hc hkn hD2
  go_enter Tryz.func81, Tryz.ntmps81
  go_wp2_with fail
  go_quiet (fail)
  have hgd := gb_drewN (gb_refl w none) nq
  have HDW := Lib.hid (HDD.out nq)
  have hrun : (Instr.lookup 146 (.map (some B2)) (.string y) false).run Tryz.prog (w.drewN nq).drew = .ok (.int .i64 c) (w.drewN nq).drew := HRU.out (nq + 1)
  obtain ⟨W', hup, hown, hgr⟩ := HUP.out (w.drewN nq).drew HDW.out.drew
  have c0 : (w.drewN nq).cell? ⟨fg, fo, none⟩ = some (.int .i64 22) := c0
  have c1 : (w.drewN nq).cell? ⟨fg, fo + 1, none⟩ = some (.string y) := c1
  have c6 : (w.drewN nq).cell? ⟨fg, fo + 6, none⟩ = some (.slice pk kn ck) := c6
  have x3 : (w.drewN nq).cell? ⟨B3, 0, none⟩ = some (.map (some B2)) := x3
  have hgl : fg < (w.drewN nq).heap.size := hgl
  have hb3 : B3 < (w.drewN nq).heap.size := hb3
  have HPW := Lib.hid (HPO.out W' (((gb_drew hgd).but B2).trans hgr) hown)
  clear hgd HPO hown hgr HUP HRU HDD HDW
  generalize w.drewN nq = W at *
  go_wp2_with fail
  go_region
  all_goals
    go_wp2_with fail
    refine bodyPost_end (results_none rfl _ _ _) rfl ?_
    exact HPW.out
end Go.Proofs.YtmlcpihedmmlfaaGreatDoor
namespace Go.Proofs.YtmlcpihedmmlfaaGreatDoor
open Go.RowKit

set_option maxRecDepth 100000 in
set_option maxHeartbeats 16000000 in
theorem free1_down (F : Nat → Prop) (b : Nat) (s : FrS) (f : Fm) (w : World) (hp : PFr b s w) (hx : PAtE F w f.g f.o f.x) (hq : QFr f.x) (hl : LFr (stF s f.x f.d)) (hdm : (kidsE f.x).length ≤ 1000000) (h1 : opE f.x = 22) (h2 : f.d = 2) :
    Calls Tryz.prog 81 #[.pointer (some ⟨f.g, f.o, none⟩), .int .i64 (f.d : Int), .pointer (some ⟨b + 3, 0, none⟩), .pointer (some ⟨b + 1, 0, none⟩)] w (FrPost b (stF s f.x f.d) w) := by
  have hst := stF_down (s := s) h1 h2
  have hn1 : s.n ≤ 1000000 := by have h := (stF_n s f.x f.d).1; unfold LFr at hl; omega
  obtain ⟨pk, ck, c0, c1, c6⟩ := fr_cells hx
  have hgl := hx.2.1
  have hp0 := hp
  obtain ⟨hb4, hbx, ⟨D, hD, hat⟩, -, hbd, hon⟩ := hp
  have hsz : (nmX f.x).length ≤ 1000000 := hq.2
  have hcb := hbd (nmX f.x)
  have HDD := Lib.hid (fun (n : Nat) => (hD.kept (gb_drewN (gb_refl w none) n) (by simp) : (w.drewN n).ownsMap _ _ _ _ _ D))
  have hrun := fun n => look_fr hD hat hsz (gb_drewN (gb_refl w none) n)
  have HRU := Lib.hid hrun
  have HUP : Hid (∀ W : World, W.ownsMap Tryz.prog 9 (plainElem Tryz.prog 3) (b + 2) s.n D → ∃ W', (Instr.mapUpdate 146 (.map (some (b + 2))) (.string ⟨(nmX f.x).toArray⟩) (.int .i64 (s.bd (nmX f.x) + (-1)))).run Tryz.prog W = .ok () W' ∧ W'.ownsMap Tryz.prog 9 (plainElem Tryz.prog 3) (b + 2) (s.n + 1) (D.put (.string (nmX f.x)) (.lit (.int .i64 (s.bd (nmX f.x) + (-1))))) ∧ W.grownBy W' (some (b + 2))) := Lib.hid (fun W hW => hW.update str_key Tryz.underlying146 (by unfold maxLen; omega) (key_of (nmX f.x) hsz) (plainElem_int Tryz.underlying3 (wf_small (by omega) (by omega))))
  have HPO := Lib.hid (fun w' hg ho => fr_turn (w' := w') (k := nmX f.x) (d := -1) hp0 hD hat (by omega) hg ho)
  rw [← hst] at HPO
  have x3 := cell_of_row w (b + 3) 0 _ _ (0, 0) hbx
  have x3 : w.cell? ⟨b + 3, 0, none⟩ = some (.map (some (b + 2))) := x3
  have hb3 : b + 3 < w.heap.size := by omega
  obtain ⟨c, hc⟩ : ∃ c, s.bd (nmX f.x) = c := ⟨_, rfl⟩
  obtain ⟨B3, hB3⟩ : ∃ B3, b + 3 = B3 := ⟨_, rfl⟩
  obtain ⟨B2, hB2⟩ : ∃ B2, b + 2 = B2 := ⟨_, rfl⟩
  obtain ⟨y, hy⟩ : ∃ y : ByteArray, (⟨(nmX f.x).toArray⟩ : ByteArray) = y := ⟨_, rfl⟩
  obtain ⟨fg, hfg⟩ : ∃ fg, f.g = fg := ⟨_, rfl⟩
  obtain ⟨fo, hfo⟩ : ∃ fo, f.o = fo := ⟨_, rfl⟩
  obtain ⟨kn, hkn⟩ : ∃ kn, (kidsE f.x).length = kn := ⟨_, rfl⟩
  rw [hc] at HUP HRU HPO hcb
  rw [hB2] at x3 HRU HUP HPO HDD
  rw [hB3] at x3 hb3
  rw [hy] at HRU c1 HUP
  rw [hfg, hfo] at c0 c1 c6
  rw [hkn] at c6 hdm
  rw [h1] at c0
  rw [hfg] at hgl
  rw [hfg, hfo, h2, hB3]
  rw [h2] at HPO
  obtain ⟨D2, hD2⟩ : ∃ D2, D.put (.string (nmX f.x)) (.lit (.int .i64 (c + (-1)))) = D2 := ⟨_, rfl⟩
  rw [hD2] at HUP HPO
  generalize FrPost b (stF s f.x 2) w = PO at HPO ⊢
  have hw1 : IntKind.i64.wrap (c - 1) = c + (-1) := by rw [IntWalk.i64_in _ (by omega)]; omega
  clear hx hq hb4 hbx hD hat hB2 hy hfg hfo hsz hB3 hp0 hon hl hst h1 h2 hrun hbd hc hkn hD2
  go_enter Tryz.func81, Tryz.ntmps81
  go_wp2_with fail
  go_quiet (fail)
  have hgd := gb_drewN (gb_refl w none) nq
  have HDW := Lib.hid (HDD.out nq)
  have hrun : (Instr.lookup 146 (.map (some B2)) (.string y) false).run Tryz.prog (w.drewN nq).drew = .ok (.int .i64 c) (w.drewN nq).drew := HRU.out (nq + 1)
  obtain ⟨W', hup, hown, hgr⟩ := HUP.out (w.drewN nq).drew HDW.out.drew
  have c0 : (w.drewN nq).cell? ⟨fg, fo, none⟩ = some (.int .i64 22) := c0
  have c1 : (w.drewN nq).cell? ⟨fg, fo + 1, none⟩ = some (.string y) := c1
  have c6 : (w.drewN nq).cell? ⟨fg, fo + 6, none⟩ = some (.slice pk kn ck) := c6
  have x3 : (w.drewN nq).cell? ⟨B3, 0, none⟩ = some (.map (some B2)) := x3
  have hgl : fg < (w.drewN nq).heap.size := hgl
  have hb3 : B3 < (w.drewN nq).heap.size := hb3
  have HPW := Lib.hid (HPO.out W' (((gb_drew hgd).but B2).trans hgr) hown)
  clear hgd HPO hown hgr HUP HRU HDD HDW
  generalize w.drewN nq = W at *
  go_wp2_with fail
  go_region
  all_goals
    go_wp2_with fail
    refine bodyPost_end (results_none rfl _ _ _) rfl ?_
    exact HPW.out

theorem free1_c (F : Nat → Prop) (b : Nat) (s : FrS) (f : Fm) (w : World) (hp : PFr b s w) (hx : PAtE F w f.g f.o f.x) (hd : f.d ≤ (kidsE f.x).length) (hdm : (kidsE f.x).length ≤ 1000000) (hq : QFr f.x) (hl : LFr (stF s f.x f.d)) :
    Calls Tryz.prog 81 #[.pointer (some ⟨f.g, f.o, none⟩), .int .i64 (f.d : Int), .pointer (some ⟨b + 3, 0, none⟩), .pointer (some ⟨b + 1, 0, none⟩)] w (FrPost b (stF s f.x f.d) w) := by
  by_cases h1 : opE f.x = 3 ∧ f.d = 0 ∧ s.bd (nmX f.x) = 0
  · exact free1_add F b s f w hp hx hq hl h1.1 h1.2.1 h1.2.2
  by_cases h2 : opE f.x = 22 ∧ f.d = 1 ∧ 1 < (kidsE f.x).length
  · exact free1_up F b s f w hp hx hq hl hdm h2.1 h2.2.1 h2.2.2
  by_cases h3 : opE f.x = 22 ∧ f.d = 2
  · exact free1_down F b s f w hp hx hq hl hdm h3.1 h3.2
  · exact free1_idle F b s f w hp hx hd hdm hq h1 h2 h3

mutual
/-- All that is asked of an expression's parts. -/
def frQ : Ex → Prop
  | .mk op nm md nu ys ks ps => QFr (.mk op nm md nu ys ks ps) ∧ ks.length ≤ 1000000 ∧ frQs ks
def frQs : List Ex → Prop
  | [] => True
  | k :: l => frQ k ∧ frQs l
end
theorem frQs_mem : ∀ {l : List Ex} {k : Ex}, frQs l → k ∈ l → frQ k
  | [], k, _, h => by cases h
  | y :: l, k, hs, h => by
    simp only [frQs] at hs
    rcases List.mem_cons.1 h with h | h
    · subst h; exact hs.1
    · exact frQs_mem hs.2 h
theorem frQ_kid {x k : Ex} (h : frQ x) (hk : k ∈ kidsE x) : frQ k := by
  cases x with
  | mk op nm md nu ys ks ps => simp only [frQ] at h; exact frQs_mem h.2.2 hk
theorem frQ_at {x : Ex} (h : frQ x) : QFr x ∧ (kidsE x).length ≤ 1000000 := by
  cases x with
  | mk op nm md nu ys ks ps => simp only [frQ] at h; exact ⟨h.1, h.2.1⟩
theorem tellF (F : Nat → Prop) (b : Nat) (hF : ∀ k, F k → k < b + 1) : Tell2 stF 81 (b + 3) (b + 1) (b + 1) F (PFr b) LFr frQ where
  below := hF
  box := by omega
  tell := fun s f w hp _ hx hd hq hl => free1_c F b s f w hp hx hd (frQ_at hq).2 (frQ_at hq).1 hl
  mono := fun s x d h => by have h1 := (stF_n s x d).1; unfold LFr at h ⊢; omega
  kids := fun x k h hk => frQ_kid h hk
  grown := fun s w w' h hg => h.gb hg
  placed := fun s w w' g cs h hg hc hne => by
    obtain ⟨h1, h2, ⟨D, ⟨es, clock, h3, h3r⟩, h4⟩, ⟨pv, nv, cv, h5, h6⟩, h7⟩ := h
    have n3 : b + 3 ≠ g := fun e => by rw [← e, h2] at hc; injection hc with hc; injection hc with _ hc; exact absurd hc (by decide)
    have n2 : b + 2 ≠ g := fun e => by rw [← e, h3] at hc; cases hc
    have n1 : b + 1 ≠ g := fun e => by rw [← e, h5] at hc; injection hc with hc; injection hc with _ hc; exact absurd hc (by decide)
    have keep : ∀ j, j ≠ g → j < w.heap.size → w'.heap[j]? = w.heap[j]? := fun j hj hl => hg.block j hl (fun e => hj (by injection e))
    refine ⟨Nat.le_trans h1 hg.size, (keep _ n3 (hlt h2)).trans h2, ⟨D, ⟨es, clock, (keep _ n2 (hlt h3)).trans h3, h3r⟩, h4⟩, ⟨pv, nv, cv, (keep _ n1 (hlt h5)).trans h5, h6.keptR hg (fun k hk e => ?_)⟩, h7⟩
    obtain ⟨-, -, cur, hcur⟩ := own_cells h6 k hk
    injection e with e
    subst e
    rw [hcur] at hc; injection hc with hc; injection hc with _ hc; exact absurd hc (by decide)
end Go.Proofs.YtmlcpihedmmlfaaGreatDoor
namespace Go.Proofs
open Go.Shelf
def Tryz.lays190_ren : Go.Shelf.Ren := ⟨fun | 190 => 121 | 125 => 154 | 258 => 153 | 128 => 183 | 129 => 184 | 302 => 174 | 303 => 175 | 304 => 176 | 305 => 177 | 306 => 178 | 307 => 179 | 308 => 180 | 309 => 181 | 310 => 182 | 333 => 195 | 329 => 196 | 330 => 197 | 334 => 198 | 335 => 199 | 336 => 200 | 344 => 211 | n => n, fun | 31 => 38 | 9 => 9 | 3 => 3 | 46 => 206 | 0 => 0 | 51 => 238 | 53 => 199 | 4 => 4 | 183 => 231 | 182 => 230 | 131 => 235 | 5 => 5 | 218 => 246 | 222 => 250 | 228 => 254 | 229 => 156 | n => n, fun | n => n⟩
theorem Tryz.lays190 : Go.Proofs.Lays.n190 Tryz.prog Tryz.lays190_ren := {
  mixed := by kernel_rfl
  f125 := Tryz.func154.trans (congrArg some (by kernel_rfl))
  f128 := Tryz.func183.trans (congrArg some (by kernel_rfl))
  f129 := Tryz.func184.trans (congrArg some (by kernel_rfl))
  f190 := Tryz.func121.trans (congrArg some (by kernel_rfl))
  f258 := Tryz.func153.trans (congrArg some (by kernel_rfl))
  f302 := Tryz.func174.trans (congrArg some (by kernel_rfl))
  f303 := Tryz.func175.trans (congrArg some (by kernel_rfl))
  f304 := Tryz.func176.trans (congrArg some (by kernel_rfl))
  f305 := Tryz.func177.trans (congrArg some (by kernel_rfl))
  f306 := Tryz.func178.trans (congrArg some (by kernel_rfl))
  f307 := Tryz.func179.trans (congrArg some (by kernel_rfl))
  f308 := Tryz.func180.trans (congrArg some (by kernel_rfl))
  f309 := Tryz.func181.trans (congrArg some (by kernel_rfl))
  f310 := Tryz.func182.trans (congrArg some (by kernel_rfl))
  f329 := Tryz.func196.trans (congrArg some (by kernel_rfl))
  f330 := Tryz.func197.trans (congrArg some (by kernel_rfl))
  f333 := Tryz.func195.trans (congrArg some (by kernel_rfl))
  f334 := Tryz.func198.trans (congrArg some (by kernel_rfl))
  f335 := Tryz.func199.trans (congrArg some (by kernel_rfl))
  f336 := Tryz.func200.trans (congrArg some (by kernel_rfl))
  f344 := Tryz.func211.trans (congrArg some (by kernel_rfl))
  t0 := Tryz.underlying0
  a0 := Tryz.isAgg0
  z0 := Tryz.sizeOf0
  v0 := Tryz.zeroValue0
  t3 := Tryz.underlying3
  a3 := Tryz.isAgg3
  z3 := Tryz.sizeOf3
  v3 := Tryz.zeroValue3
  t4 := Tryz.underlying4
  a4 := Tryz.isAgg4
  z4 := Tryz.sizeOf4
  v4 := Tryz.zeroValue4
  t5 := Tryz.underlying5
  a5 := Tryz.isAgg5
  z5 := Tryz.sizeOf5
  v5 := Tryz.zeroValue5
  t9 := Tryz.underlying9
  a9 := Tryz.isAgg9
  z9 := Tryz.sizeOf9
  v9 := Tryz.zeroValue9
  t31 := Tryz.underlying38
  a31 := Tryz.isAgg38
  z31 := Tryz.sizeOf38
  v31 := Tryz.zeroValue38
  t46 := Tryz.underlying206
  a46 := Tryz.isAgg206
  z46 := Tryz.sizeOf206
  v46 := Tryz.zeroValue206
  t51 := Tryz.underlying238
  a51 := Tryz.isAgg238
  z51 := Tryz.sizeOf238
  v51 := Tryz.zeroValue238
  t53 := Tryz.underlying199
  a53 := Tryz.isAgg199
  z53 := Tryz.sizeOf199
  v53 := Tryz.zeroValue199
  t131 := Tryz.underlying235
  a131 := Tryz.isAgg235
  z131 := Tryz.sizeOf235
  v131 := Tryz.zeroValue235
  t182 := Tryz.underlying230
  a182 := Tryz.isAgg230
  z182 := Tryz.sizeOf230
  v182 := Tryz.zeroValue230
  t183 := Tryz.underlying231
  a183 := Tryz.isAgg231
  z183 := Tryz.sizeOf231
  v183 := Tryz.zeroValue231
  t218 := Tryz.underlying246
  a218 := Tryz.isAgg246
  z218 := Tryz.sizeOf246
  v218 := Tryz.zeroValue246
  t222 := Tryz.underlying250
  a222 := Tryz.isAgg250
  z222 := Tryz.sizeOf250
  v222 := Tryz.zeroValue250
  t228 := Tryz.underlying254
  a228 := Tryz.isAgg254
  z228 := Tryz.sizeOf254
  v228 := Tryz.zeroValue254
  t229 := Tryz.underlying156
  a229 := Tryz.isAgg156
  z229 := Tryz.sizeOf156
  v229 := Tryz.zeroValue156 }
open Go.Sort Go.RowKit in
theorem Tryz.slices_Sort_string (blk off cap : Nat) (ss : List (List UInt8)) (w : World) (hH : Holds encStr w blk off ss.toArray) (hblk : blk < w.heap.size) (hsz : ss.length < 4611686018427387904) :
    Calls Tryz.prog 121 #[.slice (some ⟨blk, off, none⟩) ss.length cap] w fun e w' =>
      e = .returned (.tuple #[]) ∧ ∃ n os, w' = grow (putRow encStr (Sort.ahead w n) blk off (ss.mergeSort fun x y => decide (x ≤ y)).toArray) os := Any.slices_Sort_string Tryz.lays190 blk off cap ss w hH hblk hsz
def Tryz.laysNm216_ren : Go.Shelf.Ren := ⟨fun | 16 => 123 | n => n, fun | 24 => 38 | 9 => 9 | 4 => 4 | n => n, fun | n => n⟩
theorem Tryz.laysNm216 : Go.Proofs.Lays2.n16 Tryz.prog Tryz.laysNm216_ren := {
  mixed := by kernel_rfl
  f16 := Tryz.func123.trans (congrArg some (by kernel_rfl))
  t4 := Tryz.underlying4
  a4 := Tryz.isAgg4
  z4 := Tryz.sizeOf4
  v4 := Tryz.zeroValue4
  t9 := Tryz.underlying9
  a9 := Tryz.isAgg9
  z9 := Tryz.sizeOf9
  v9 := Tryz.zeroValue9
  t24 := Tryz.underlying38
  a24 := Tryz.isAgg38
  z24 := Tryz.sizeOf38
  v24 := Tryz.zeroValue38
  i9 := by kernel_rfl }
open Go.RowKit Go.Lib in
/-- slices.Clone at []string: "Clone returns a copy of the slice. The elements are copied using assignment, so this is a shallow clone. The result may have additional unused capacity. The result preserves the nilness of s.": OF A SLICE THAT IS NOT nil IT RETURNS A SLICE THAT IS NOT nil, OF THE SAME ELEMENTS, IN MEMORY OF THE CALL's OWN: in the how-to's words (6f): 'w'.ownsRow B e 1 v' n cells': v' begins at the head of a row among the blocks from B on (B: the heap's size at the call), not frozen, whose first cells are the elements · 'Below B w w'': below B all is as it was. The capacity is whatever the run-time gives. 'zs': what the cells behind the slice's address hold; 'zs.take n': its elements. (LAID: no walk: one application.) -/
theorem Tryz.slices_Clone_string (b off n c : Nat) (zs : List ByteArray) (w : World) (hz : n ≤ zs.length) (hbig : n * 16 ≤ 140737488355328) (hc : ∀ j, j < zs.length → w.cell? ⟨b, off + j, none⟩ = some (.string (zs.getD j ByteArray.empty))) :
    Calls Tryz.prog 123 #[.slice (some ⟨b, off, none⟩) n c] w fun e w' => ∃ v', e = .returned v' ∧ w'.ownsRow w.heap.size 9 1 v' n ((zs.take n).map (Value.string)) ∧ v' ≠ .slice none 0 0 ∧ Below w.heap.size w w' := Any.slices_Clone_string Tryz.laysNm216 b off n c zs w hz hbig hc
open Go.RowKit Go.Lib in
/-- The same at nil: nil comes back; the world is as it was. (LAID: no walk: one application.) -/
theorem Tryz.slices_Clone_string_nil (n c : Nat) (w : World) :
    Calls Tryz.prog 123 #[.slice none n c] w fun e w' => e = .returned (.slice none 0 0) ∧ w' = w := Any.slices_Clone_string_nil Tryz.laysNm216 n c w
open Go.RowKit Go.Lib in
/-- The same at a slice of length 0 that is not nil, WHATEVER ITS ADDRESS (no cell is asked for): a slice that is not nil and owns nothing comes back. (LAID: no walk: one application.) -/
theorem Tryz.slices_Clone_string_zero (a : Addr) (c : Nat) (w : World) :
    Calls Tryz.prog 123 #[.slice (some a) 0 c] w fun e w' => ∃ v', e = .returned v' ∧ w'.ownsRow w.heap.size 9 1 v' 0 [] ∧ v' ≠ .slice none 0 0 ∧ Below w.heap.size w w' := Any.slices_Clone_string_zero Tryz.laysNm216 a c w
def Tryz.lays194_ren : Go.Shelf.Ren := ⟨fun | 194 => 122 | n => n, fun | 31 => 38 | 9 => 9 | 3 => 3 | 4 => 4 | 0 => 0 | n => n, fun | n => n⟩
theorem Tryz.lays194 : Go.Proofs.Lays.n194 Tryz.prog Tryz.lays194_ren := {
  mixed := by kernel_rfl
  f194 := Tryz.func122.trans (congrArg some (by kernel_rfl))
  t0 := Tryz.underlying0
  a0 := Tryz.isAgg0
  z0 := Tryz.sizeOf0
  v0 := Tryz.zeroValue0
  t3 := Tryz.underlying3
  a3 := Tryz.isAgg3
  z3 := Tryz.sizeOf3
  v3 := Tryz.zeroValue3
  t4 := Tryz.underlying4
  a4 := Tryz.isAgg4
  z4 := Tryz.sizeOf4
  v4 := Tryz.zeroValue4
  t9 := Tryz.underlying9
  a9 := Tryz.isAgg9
  z9 := Tryz.sizeOf9
  v9 := Tryz.zeroValue9
  t31 := Tryz.underlying38
  a31 := Tryz.isAgg38
  z31 := Tryz.sizeOf38
  v31 := Tryz.zeroValue38 }
open Go.RowKit Go.Lib Go.Sort in
/-- slices.Compact at []string: "Compact replaces consecutive runs of equal elements with a single copy. This is like the uniq command found on Unix. Compact modifies the contents of the slice s and returns the modified slice, which may have a smaller length. Compact zeroes the elements between the new length and the original length. The result preserves the nilness of s.": IT RETURNS THE SLICE CUT TO 'Lib.compact zs'; ITS CELLS HOLD 'Lib.compact zs', THEN ZERO VALUES up to the old length; all else is as it was, but for the count of draws. IN THE WORDS OF slices.Sort's CONTRACT ('Holds', 'putRow'): so the everyday 'slices.Sort(xs); xs = slices.Compact(xs)' goes from the one contract to the other. It asks 'zs.length ≤ cap' (every slice's: the reslicing 's[:k]' looks at it). Length 0, nil: '.._empty'. (LAID: no walk: one application.) -/
theorem Tryz.slices_Compact_string (blk off cap : Nat) (zs : List (List UInt8)) (w : World) (hH : Holds encStr w blk off zs.toArray) (hsz : zs.length ≤ 9223372036854775807) (hcap : zs.length ≤ cap) :
    Calls Tryz.prog 122 #[.slice (some ⟨blk, off, none⟩) zs.length cap] w fun e w' => e = .returned (.slice (some ⟨blk, off, none⟩) (Lib.compact zs).length cap) ∧ ∃ q, w' = putRow encStr (Sort.ahead w q) blk off (Lib.compact zs ++ List.replicate (zs.length - (Lib.compact zs).length) []).toArray := Any.slices_Compact_string Tryz.lays194 blk off cap zs w hH hsz hcap
open Go.RowKit Go.Lib Go.Sort in
/-- The same at a slice of length 0, a nil one too: it comes back as it is. (LAID: no walk: one application.) -/
theorem Tryz.slices_Compact_string_empty (a : Option Addr) (cap : Nat) (w : World) :
    Calls Tryz.prog 122 #[.slice a 0 cap] w fun e w' => e = .returned (.slice a 0 cap) ∧ w' = w := Any.slices_Compact_string_empty Tryz.lays194 a cap w
open Go.RowKit Go.Sort in
/-- .. and plain. (LAID: no walk: one application.) -/
theorem Tryz.slices_Sort_string_none (p : Option Addr) (cap : Nat) (w : World) :
    Calls Tryz.prog 121 #[.slice p 0 cap] w fun e w' => e = .returned (.tuple #[]) ∧ w' = w := Any.slices_Sort_string_none Tryz.lays190 p cap w
end Go.Proofs
