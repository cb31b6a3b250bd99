/- A program's dump, as a text; how long it may be. -/
import Derived.Test.YtoahgeleenpnjaaGreatDoorE13
import Derived.Test.YtoahgeleenpnjaaGreatDoorE16
import Derived.Test.YtoahgeleenpnjaaGreatDoorE18
import Derived.Test.YtoahgeleenpnjaaGreatDoorE42
import Derived.Test.YtoahgeleenpnjaaGreatDoorE20
import Derived.Test.YtoahgeleenpnjaaGreatDoorE39
set_option linter.unusedVariables false
set_option linter.unusedSimpArgs false
namespace Go.Proofs.YtoahgeleenpnjaaGreatDoor

def dmpTy (base : Nat) (cl : List Ex) : List UInt8 := 58 :: (decN base ++ cl.flatMap dmpE)
def dmpF (f : Fx) : List UInt8 := 32 :: (f.nm ++ dmpTy f.base f.cl)
def dmpD (d : Dx) : List UInt8 := (if d.pub = true then [112, 117, 98, 32] else []) ++ (d.res.nm ++ (d.ps.flatMap dmpF ++ (32 :: (dmpTy d.res.base d.res.cl ++ ([32, 61, 32] ++ (dmpE d.body ++ [10]))))))
def dmpI (x : List UInt8 × Nat) : List UInt8 := [105, 109, 112, 111, 114, 116, 32] ++ (x.1 ++ [10])
def dmpP (P : Px) : List UInt8 := P.imps.flatMap dmpI ++ P.defs.flatMap dmpD

/-- What dumping asks. -/
structure XBd (x : Ex) : Prop where
  small : allS x
  cnt : cntE x ≤ 1000000
  size : sizE x ≤ 1000000
  len : (dmpE x).length ≤ 100000
structure FBd (f : Fx) : Prop where
  name : f.nm.length ≤ 2000
  base : f.base < 100
  one : f.cl.length ≤ 1
  cls : ∀ x ∈ f.cl, XBd x
structure DBe (d : Dx) : Prop where
  pars : ∀ f ∈ d.ps, FBd f
  few : d.ps.length ≤ 10000
  res : FBd d.res
  body : XBd d.body
structure PBd (P : Px) : Prop where
  imps : ∀ x ∈ P.imps, x.1.length ≤ 2000
  few : P.imps.length ≤ 10000
  defs : ∀ d ∈ P.defs, DBe d
  fewd : P.defs.length ≤ 10000

theorem flat_le {α : Type} (f : α → List UInt8) (K : Nat) : ∀ l : List α, (∀ x ∈ l, (f x).length ≤ K) → (l.flatMap f).length ≤ l.length * K
  | [], _ => by simp
  | x :: l, h => by
    have h1 := h x (by simp)
    have h2 := flat_le f K l (fun y hy => h y (by simp [hy]))
    rw [List.flatMap_cons, List.length_append, List.length_cons, Nat.succ_mul]
    omega
theorem flat_next {α : Type} (f : α → List UInt8) {l : List α} {j : Nat} {x : α} (h : l[j]? = some x) : (l.take (j + 1)).flatMap f = (l.take j).flatMap f ++ f x := by
  rw [List.take_add_one, h, List.flatMap_append]; simp
theorem flat_take {α : Type} (f : α → List UInt8) (l : List α) (j : Nat) : ((l.take j).flatMap f).length ≤ (l.flatMap f).length := by
  have h : l.flatMap f = (l.take j).flatMap f ++ (l.drop j).flatMap f := by rw [← List.flatMap_append, List.take_append_drop]
  rw [h, List.length_append]; omega
theorem decN_len (k : Nat) : (decN k).length ≤ 2 := by unfold decN; split <;> simp
theorem dmpTy_len {f : Fx} (h : FBd f) : (dmpTy f.base f.cl).length ≤ 100010 := by
  have h1 := flat_le dmpE 100000 f.cl (fun x hx => (h.cls x hx).len)
  have h2 := decN_len f.base
  have h3 := h.one
  have h4 : f.cl.length * 100000 ≤ 1 * 100000 := Nat.mul_le_mul_right _ h3
  unfold dmpTy
  simp only [List.length_cons, List.length_append]
  omega
theorem dmpF_len {f : Fx} (h : FBd f) : (dmpF f).length ≤ 103000 := by
  have h1 := dmpTy_len h
  have h2 := h.name
  unfold dmpF
  simp only [List.length_cons, List.length_append]
  omega
theorem dmpD_len {d : Dx} (h : DBe d) : (dmpD d).length ≤ 1040000000 := by
  have h1 := flat_le dmpF 103000 d.ps (fun x hx => dmpF_len (h.pars x hx))
  have h2 := dmpTy_len h.res
  have h3 := h.res.name
  have h4 := h.body.len
  have h5 : d.ps.length * 103000 ≤ 10000 * 103000 := Nat.mul_le_mul_right _ h.few
  have h6 : (if d.pub = true then [112, 117, 98, 32] else [] : List UInt8).length ≤ 4 := by split <;> simp
  unfold dmpD
  simp only [List.length_cons, List.length_append, List.length_nil]
  omega
theorem dmpI_len {x : List UInt8 × Nat} (h : x.1.length ≤ 2000) : (dmpI x).length ≤ 3000 := by
  unfold dmpI
  simp only [List.length_cons, List.length_append, List.length_nil]
  omega
theorem dmpP_len {P : Px} (h : PBd P) : (dmpP P).length ≤ 20000000000000 := by
  have h1 := flat_le dmpI 3000 P.imps (fun x hx => dmpI_len (h.imps x hx))
  have h2 := flat_le dmpD 1040000000 P.defs (fun x hx => dmpD_len (h.defs x hx))
  have h3 : P.imps.length * 3000 ≤ 10000 * 3000 := Nat.mul_le_mul_right _ h.few
  have h4 : P.defs.length * 1040000000 ≤ 10000 * 1040000000 := Nat.mul_le_mul_right _ h.fewd
  unfold dmpP
  rw [List.length_append]
  omega
end Go.Proofs.YtoahgeleenpnjaaGreatDoor
namespace Go.Proofs.YtoahgeleenpnjaaGreatDoor

theorem FBd.era {f : Fx} (h : FBd f) : FBd (eraF f) := ⟨h.name, h.base, by simp [eraF], fun x hx => by simp [eraF] at hx⟩
theorem DBe.era {d : Dx} (h : DBe d) : DBe (eraD d) := ⟨fun f hf => by
  obtain ⟨g, hg, rfl⟩ := List.mem_map.1 (show f ∈ d.ps.map eraF from hf)
  exact (h.pars g hg).era, by rw [show (eraD d).ps = d.ps.map eraF from rfl, List.length_map]; exact h.few, h.res.era, h.body⟩
theorem PBd.era {P : Px} (h : PBd P) : PBd (eraP P) := ⟨h.imps, h.few, fun d hd => by
  obtain ⟨g, hg, rfl⟩ := List.mem_map.1 (show d ∈ P.defs.map eraD from hd)
  exact (h.defs g hg).era, by rw [show (eraP P).defs = P.defs.map eraD from rfl, List.length_map]; exact h.fewd⟩
theorem DBe.dbd {d : Dx} (h : DBe d) : DBd d := ⟨h.body.size, h.body.small, by have := h.res.name; omega, by have := h.few; omega, fun f hf => by have := (h.pars f hf).name; omega⟩
end Go.Proofs.YtoahgeleenpnjaaGreatDoor
namespace Go.Proofs.YtoahgeleenpnjaaGreatDoor

theorem sum_texts : ∀ T : List Tok, (T.map (fun t => t.text.length)).sum ≤ (wholeL T).length
  | [] => by simp [wholeL]
  | t :: T => by
    have := sum_texts T
    unfold wholeL at this ⊢
    simp only [List.map_cons, List.sum_cons, List.flatMap_cons, List.length_append]
    omega
theorem sumTx_range (T : List Tok) : sumTx T (List.range T.length) = (T.map (fun t => t.text.length)).sum := by
  unfold sumTx
  congr 1
  apply List.ext_getElem
  · simp
  · intro i h1 h2
    simp only [List.length_map, List.length_range] at h1
    simp [tkT, h1]
theorem le_sum8 : ∀ {L : List Nat} {a : Nat}, a ∈ L → a ≤ L.sum
  | [], a, h => by simp at h
  | b :: L, a, h => by
    rw [List.sum_cons]
    rcases List.mem_cons.1 h with rfl | h
    · omega
    · have := le_sum8 h; omega
end Go.Proofs.YtoahgeleenpnjaaGreatDoor
