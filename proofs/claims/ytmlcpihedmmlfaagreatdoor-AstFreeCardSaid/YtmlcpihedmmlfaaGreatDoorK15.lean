/- What Free's closure does when it is told an expression. -/
import Derived.Maps.OwnSet
import Derived.Maps.OwnOps
import Derived.Maps.Views
import Derived.Test.YtmlcpihedmmlfaaGreatDoorK13
import Derived.Test.YtmlcpihedmmlfaaGreatDoorK14
import Derived.Test.YtmlcpihedmmlfaaGreatDoorK3
import Derived.Deep.RegionLaw
set_option linter.unusedVariables false
set_option linter.unusedSimpArgs false
namespace Go.Proofs.YtmlcpihedmmlfaaGreatDoor
open Go.RowKit

theorem str_key : Maps.Keyed Tryz.prog 9 := Maps.string_keyed Tryz.underlying9
theorem zeroInt (w : World) : (zeroValue 3).run Tryz.prog w = .ok (.int .i64 0) w := by kernel_rfl
theorem infoSt : (Tryz.prog.info? 9).map (fun i => (i.zero, i.size, i.bytes)) = some (some (.string ByteArray.empty), 1, 16) := by kernel_rfl
theorem wf_small {c : Int} (h1 : -1000001 ≤ c) (h2 : c ≤ 1000001) : (Lit.int .i64 c).wf = true := by
  have a : IntKind.i64.min ≤ c := by
    have e : IntKind.i64.min = -9223372036854775808 := by decide
    omega
  have b : c ≤ IntKind.i64.max := by
    have e : IntKind.i64.max = 9223372036854775807 := by decide
    omega
  have b' : c ≤ 9223372036854775807 := by omega
  have a' : (-9223372036854775808 : Int) ≤ c := by omega
  simp [Lit.wf, a, b, a', b']
def rowW (l : List (List UInt8)) : List (List Value) := one (l.map strV)
theorem rowW_len (l : List (List UInt8)) : (rowW l).length = l.length := by unfold rowW; rw [one_len, List.length_map]
theorem rowW_snoc (l : List (List UInt8)) (x : List UInt8) : rowW (l ++ [x]) = rowW l ++ [[strV x]] := by unfold rowW; rw [List.map_append, one_append]; rfl

/-- What lies in Free's boxes: the row of names, the map of what is bound. -/
def PFr (b : Nat) (s : FrS) (w : World) : Prop :=
  b + 4 ≤ w.heap.size ∧ w.heap[b + 3]? = some (.cells #[.map (some (b + 2))] 146 (0, 0)) ∧
  (∃ D : DataW Unit, w.ownsMap Tryz.prog 9 (plainElem Tryz.prog 3) (b + 2) s.n D ∧ ∀ k, D.atKey (.string k) (.lit (.int .i64 0)) = .lit (.int .i64 (s.bd k))) ∧
  (∃ pv nv cv, w.heap[b + 1]? = some (.cells #[.slice pv nv cv] 38 (0, 0)) ∧ OwnG 1 9 w (b + 4) (.slice pv nv cv) (rowW s.out)) ∧ (∀ k, -(s.n : Int) ≤ s.bd k ∧ s.bd k ≤ (s.n : Int)) ∧ s.out.length ≤ s.n
def LFr (s : FrS) : Prop := s.n ≤ 1000000
def QFr (x : Ex) : Prop := letE x ∧ (nmX x).length ≤ 1000000

theorem PFr.gb {b : Nat} {s : FrS} {w w' : World} (h : PFr b s w) (hg : w.grownBy w' none) : PFr b s w' := by
  obtain ⟨h1, h2, ⟨D, h3, h4⟩, ⟨pv, nv, cv, h5, h6⟩, h7⟩ := h
  exact ⟨Nat.le_trans h1 hg.size, bx hg h2, ⟨D, h3.kept hg (by simp), h4⟩, ⟨pv, nv, cv, bx hg h5, h6.kept hg⟩, h7⟩
theorem PFr.bump {b : Nat} {s : FrS} {w : World} (h : PFr b s w) (hs : w.heap.size = w.heap.size) : PFr b ⟨s.out, s.bd, s.n + 1⟩ w := by
  obtain ⟨h1, h2, ⟨D, h3, h4⟩, h5, h6, h7⟩ := h
  refine ⟨h1, h2, ⟨D, h3.mono (Nat.le_succ _), h4⟩, h5, fun k => ?_, by simp only; omega⟩
  have := h6 k
  simp only
  omega
/-- The cells that are read. -/
theorem fr_cells {F : Nat → Prop} {w : World} {g o : Nat} {x : Ex} (h : PAtE F w g o x) : ∃ pk ck, w.cell? ⟨g, o, none⟩ = some (.int .i64 (opE x : Int)) ∧ w.cell? ⟨g, o + 1, none⟩ = some (.string ⟨(nmX x).toArray⟩) ∧ w.cell? ⟨g, o + 6, none⟩ = some (.slice pk (kidsE x).length ck) := by
  obtain ⟨pk, ck, h6, -⟩ := h.kids
  cases x with
  | mk op nm md nu ys ks ps =>
    obtain ⟨hF, hl, q, hq, hc, he⟩ := h
    simp only [EAt] at he
    obtain ⟨s, pw, nw, cw, pk2, ck2, rows, rfl, h2, h3, h4, h5⟩ := he
    exact ⟨pk, ck, by have := hc 0 _ rfl; rw [Nat.add_zero] at this; exact this, hc 1 _ rfl, h6⟩
end Go.Proofs.YtmlcpihedmmlfaaGreatDoor
namespace Go.Proofs.YtmlcpihedmmlfaaGreatDoor
open Go.RowKit

theorem key_of (k : List UInt8) (hk : k.length ≤ 1000000) : Go.keyOf Tryz.prog 9 (.string ⟨k.toArray⟩) = some (.string k) :=
  WideMaps.keyOf_string_mk (s := ⟨k.toArray⟩) Tryz.underlying9 (by rw [← list_len]; unfold maxLen; show k.length ≤ _; omega)
/-- How often a name is bound, looked up. -/
theorem look_fr {w w' : World} {m n : Nat} {D : DataW Unit} {bd : List UInt8 → Int} {k : List UInt8} (hD : w.ownsMap Tryz.prog 9 (plainElem Tryz.prog 3) m n D) (hat : ∀ k, D.atKey (.string k) (.lit (.int .i64 0)) = .lit (.int .i64 (bd k))) (hk : k.length ≤ 1000000) (hg : w.grownBy w' none) :
    (Instr.lookup 146 (.map (some m)) (.string ⟨k.toArray⟩) false).run Tryz.prog w' = .ok (.int .i64 (bd k)) w' := by
  obtain ⟨c, hrun, hc, -⟩ := (hD.kept hg (by simp)).lookup_int str_key Tryz.underlying146 Tryz.underlying3 (zeroInt w') (key_of k hk)
  have h := hc.symm.trans (hat k)
  have h : c = bd k := by simpa using h
  rw [← h]; exact hrun
theorem stF_add {s : FrS} {x : Ex} {d : Nat} (h1 : opE x = 3) (h2 : d = 0) (h3 : s.bd (nmX x) = 0) : stF s x d = ⟨s.out ++ [nmX x], s.bd, s.n + 1⟩ := by unfold stF; rw [if_pos ⟨h1, h2, h3⟩]
theorem stF_up {s : FrS} {x : Ex} {d : Nat} (h1 : opE x = 22) (h2 : d = 1) (h3 : 1 < (kidsE x).length) : stF s x d = ⟨s.out, bump s.bd (nmX x) 1, s.n + 1⟩ := by unfold stF; rw [if_neg (by omega), if_pos ⟨h1, h2, h3⟩]
theorem stF_down {s : FrS} {x : Ex} {d : Nat} (h1 : opE x = 22) (h2 : d = 2) : stF s x d = ⟨s.out, bump s.bd (nmX x) (-1), s.n + 1⟩ := by unfold stF; rw [if_neg (by omega), if_neg (by omega), if_pos ⟨h1, h2⟩]
theorem stF_idle {s : FrS} {x : Ex} {d : Nat} (h1 : ¬ (opE x = 3 ∧ d = 0 ∧ s.bd (nmX x) = 0)) (h2 : ¬ (opE x = 22 ∧ d = 1 ∧ 1 < (kidsE x).length)) (h3 : ¬ (opE x = 22 ∧ d = 2)) : stF s x d = ⟨s.out, s.bd, s.n + 1⟩ := by unfold stF; rw [if_neg h1, if_neg h2, if_neg h3]
/-- What the closure leaves. -/
def FrPost (b : Nat) (s : FrS) (w : World) (e : Ending) (w' : World) : Prop := e = .returned (.tuple #[]) ∧ PFr b s w' ∧ Below (b + 1) w w' ∧ PKept w w'
theorem FrPost.idle {b : Nat} {s t : FrS} {w w' : World} (h : PFr b s w) (ht : t = ⟨s.out, s.bd, s.n + 1⟩) (hg : w.grownBy w' none) (hb : b + 1 ≤ w.heap.size) : FrPost b t w (.returned (.tuple #[])) w' := by
  subst ht
  exact ⟨rfl, (h.bump rfl).gb hg, Below.gb hg hb, PKept.none hg⟩

set_option maxRecDepth 100000 in
set_option maxHeartbeats 16000000 in
theorem free1_idle (F : Nat → Prop) (b : Nat) (s : FrS) (f : Fm) (w : World) (hp : PFr b s w) (hx : PAtE F w f.g f.o f.x) (hd : f.d ≤ (kidsE f.x).length) (hdm : (kidsE f.x).length ≤ 1000000) (hq : QFr f.x) (h1 : ¬ (opE f.x = 3 ∧ f.d = 0 ∧ s.bd (nmX f.x) = 0)) (h2 : ¬ (opE f.x = 22 ∧ f.d = 1 ∧ 1 < (kidsE f.x).length)) (h3 : ¬ (opE f.x = 22 ∧ f.d = 2)) :
    Calls Tryz.prog 81 #[.pointer (some ⟨f.g, f.o, none⟩), .int .i64 (f.d : Int), .pointer (some ⟨b + 3, 0, none⟩), .pointer (some ⟨b + 1, 0, none⟩)] w (FrPost b (stF s f.x f.d) w) := by
  have HP := Lib.hid (fun w' (hg : w.grownBy w' none) => FrPost.idle (t := stF s f.x f.d) hp (stF_idle h1 h2 h3) hg (by have := hp.1; omega))
  obtain ⟨pk, ck, c0, c1, c6⟩ := fr_cells hx
  have hgl := hx.2.1
  obtain ⟨hb4, hbx, ⟨D, hD, hat⟩, -⟩ := hp
  have hsz : (nmX f.x).length ≤ 1000000 := hq.2
  obtain ⟨c, hcb⟩ : ∃ c, s.bd (nmX f.x) = c := ⟨_, rfl⟩
  have hrun := fun n => look_fr hD hat hsz (gb_drewN (gb_refl w none) n)
  rw [hcb] at hrun h1
  have x3 := cell_of_row w (b + 3) 0 _ _ (0, 0) hbx
  have x3 : w.cell? ⟨b + 3, 0, none⟩ = some (.map (some (b + 2))) := x3
  have hb3 : b + 3 < w.heap.size := by omega
  obtain ⟨B3, hB3⟩ : ∃ B3, b + 3 = B3 := ⟨_, rfl⟩
  obtain ⟨B2, hB2⟩ : ∃ B2, b + 2 = B2 := ⟨_, rfl⟩
  obtain ⟨y, hy⟩ : ∃ y : ByteArray, (⟨(nmX f.x).toArray⟩ : ByteArray) = y := ⟨_, rfl⟩
  obtain ⟨fg, hfg⟩ : ∃ fg, f.g = fg := ⟨_, rfl⟩
  obtain ⟨fo, hfo⟩ : ∃ fo, f.o = fo := ⟨_, rfl⟩
  obtain ⟨fd, hfd⟩ : ∃ fd, f.d = fd := ⟨_, rfl⟩
  obtain ⟨kn, hkn⟩ : ∃ kn, (kidsE f.x).length = kn := ⟨_, rfl⟩
  obtain ⟨op, hop⟩ : ∃ op, opE f.x = op := ⟨_, rfl⟩
  rw [hB2] at x3 hrun
  rw [hB3] at x3 hb3
  rw [hy] at hrun c1
  rw [hfg, hfo] at c0 c1 c6
  rw [hop] at c0 h1 h2 h3
  rw [hkn] at c6 h2 hd hdm
  rw [hfd] at h1 h2 h3 hd
  rw [hfg] at hgl
  rw [hfd] at HP
  rw [hfg, hfo, hfd, hB3]
  generalize FrPost b (stF s f.x fd) w = PO at HP ⊢
  clear hx hq hb4 hbx hD hat hcb hB2 hy hfg hfo hkn hop hsz hB3
  go_enter Tryz.func81, Tryz.ntmps81
  by_cases o3 : op = 3
  · subst o3
    by_cases d0 : fd = 0
    · subst d0
      have hc0 : (c == 0) = false := beq_eq_false_iff_ne.2 (fun e => h1 ⟨rfl, rfl, e⟩)
      clear h1 h2 h3
      go_wp2_with fail
      go_quiet (fail)
      go_wp2_with fail
      refine bodyPost_end (results_none rfl _ _ _) rfl ?_
      exact HP.out _ (gb_drewN (gb_refl _ _) _)
    · have e0 : ((fd : Int) == 0) = false := beq_eq_false_iff_ne.2 (by omega)
      clear h1 h2 h3
      go_wp2_with fail
      go_quiet (fail)
      go_wp2_with fail
      refine bodyPost_end (results_none rfl _ _ _) rfl ?_
      exact HP.out _ (gb_drewN (gb_refl _ _) _)
  · have e3 : ((op : Int) == 3) = false := beq_eq_false_iff_ne.2 (by omega)
    by_cases o22 : op = 22
    · subst o22
      by_cases d1 : fd = 1
      · subst d1
        have ek : decide ((1 : Int) < (kn : Int)) = false := decide_eq_false (fun e => h2 ⟨rfl, rfl, by omega⟩)
        have ek' : decide (1 < kn) = false := decide_eq_false (fun e => h2 ⟨rfl, rfl, e⟩)
        clear h1 h2 h3
        go_wp2_with fail
        go_quiet (fail)
        go_wp2_with fail
        refine bodyPost_end (results_none rfl _ _ _) rfl ?_
        exact HP.out _ (gb_drewN (gb_refl _ _) _)
      · have e1 : ((fd : Int) == 1) = false := beq_eq_false_iff_ne.2 (by omega)
        have e2 : ((fd : Int) == 2) = false := beq_eq_false_iff_ne.2 (fun e => h3 ⟨rfl, by omega⟩)
        clear h1 h2 h3
        go_wp2_with fail
        go_quiet (fail)
        go_wp2_with fail
        refine bodyPost_end (results_none rfl _ _ _) rfl ?_
        exact HP.out _ (gb_drewN (gb_refl _ _) _)
    · have e22 : ((op : Int) == 22) = false := beq_eq_false_iff_ne.2 (by omega)
      clear h1 h2 h3
      go_wp2_with fail
      go_quiet (fail)
      go_wp2_with fail
      refine bodyPost_end (results_none rfl _ _ _) rfl ?_
      exact HP.out _ (gb_drewN (gb_refl _ _) _)
end Go.Proofs.YtmlcpihedmmlfaaGreatDoor
