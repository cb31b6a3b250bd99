/- What is cut out, put in again, is the text. -/
import Derived.Test.YtgffaldoieakaaaSMath2
namespace Go.Proofs.Ytgffaldoieakaaa

/-- The edits that put back what spans took. -/
def backGo (s : ByteArray) : Int → List Sp → List Ed
  | _, [] => []
  | g, e :: r => (e.1 - g, s.extract e.1.toNat e.2.toNat) :: backGo s (g + (e.2 - e.1)) r

def goneI (l : List Sp) : Int := (l.map fun e => e.2 - e.1).sum
theorem goneI_snoc (l : List Sp) (e : Sp) : goneI (l ++ [e]) = goneI l + (e.2 - e.1) := by simp [goneI]
theorem goneI_cons (l : List Sp) (e : Sp) : goneI (e :: l) = (e.2 - e.1) + goneI l := by simp [goneI]

theorem backGo_snoc (s : ByteArray) (l : List Sp) (e : Sp) : ∀ g, backGo s g (l ++ [e]) = backGo s g l ++ [(e.1 - (g + goneI l), s.extract e.1.toNat e.2.toNat)] := by
  induction l with
  | nil => intro g; simp [backGo, goneI]
  | cons a l ih => intro g; simp only [List.cons_append, backGo]; rw [ih, goneI_cons, Int.add_assoc]

theorem backGo_len (s : ByteArray) (l : List Sp) : ∀ g, (backGo s g l).length = l.length := by
  induction l with
  | nil => intro g; rfl
  | cons a l ih => intro g; simp only [backGo, List.length_cons, ih]

theorem within_rem {n : Nat} : ∀ {l : List Sp} {a : Int}, 0 ≤ a → a ≤ n → withinE n a l = true → a + goneI l ≤ n := by
  intro l
  induction l with
  | nil => intro a _ h _; simp [goneI]; exact h
  | cons e r ih =>
    intro a ha han h
    unfold withinE at h
    split at h
    · cases h
    · rename_i hn
      have := ih (a := e.2) (by omega) (by omega) h
      rw [goneI_cons]; omega

theorem gone_nonneg {n : Nat} : ∀ {l : List Sp} {a : Int}, withinE n a l = true → 0 ≤ goneI l := by
  intro l
  induction l with
  | nil => intro a _; simp [goneI]
  | cons e r ih =>
    intro a h
    unfold withinE at h
    split at h
    · cases h
    · have := ih h; rw [goneI_cons]; omega

theorem ext_size (s : ByteArray) {e : Sp} (h0 : 0 ≤ e.1) (h1 : e.1 < e.2) (h2 : e.2 ≤ s.size) : ((s.extract e.1.toNat e.2.toNat).size : Int) = e.2 - e.1 := by
  rw [ByteArray.size_extract]; omega

/-- Those edits are right for what is left. -/
theorem back_right (s : ByteArray) : ∀ {l : List Sp} {c g a b : Int} {n : Nat}, 0 ≤ c → c ≤ s.size → withinE s.size c l = true → a ≤ c - g → goneI l ≤ b → (n : Int) = s.size - g - goneI l → rightE n a b (backGo s g l) = true := by
  intro l
  induction l with
  | nil => intro c g a b n _ _ _ _ _ _; rfl
  | cons e r ih =>
    intro c g a b n hc hcs h ha hb hn
    unfold withinE at h
    split at h
    · cases h
    · rename_i hno
      have hrem := within_rem (a := e.2) (by omega) (by omega) h
      have hnn := gone_nonneg h
      rw [goneI_cons] at hb hn
      have hsz := ext_size s (e := e) (by omega) (by omega) (by omega)
      unfold backGo rightE
      rw [if_neg (by
        simp only
        rw [hsz]
        have : (s.extract e.1.toNat e.2.toNat).size ≠ 0 := by omega
        omega)]
      simp only
      rw [hsz]
      exact ih (c := e.2) (by omega) (by omega) h (by omega) (by omega) (by omega)

theorem cut_prefix (s : List UInt8) : ∀ (l : List Sp) (st : Nat × List UInt8), ∃ x, (l.foldl (cutStep s) st).2 = st.2 ++ x := by
  intro l
  induction l with
  | nil => intro st; exact ⟨[], by simp⟩
  | cons e l ih =>
    intro st
    obtain ⟨x, hx⟩ := ih (cutStep s st e)
    exact ⟨_, by rw [List.foldl_cons, hx]; unfold cutStep; rw [List.append_assoc]⟩

theorem take_mid (s : List UInt8) {a b : Nat} (h : a ≤ b) : s.take a ++ (s.take b).drop a = s.take b := by
  have : s.take a = (s.take b).take a := by rw [List.take_take, Nat.min_eq_left h]
  rw [this, List.take_append_drop]

/-- What was cut out, put in again: the text. -/
theorem back_put (s : ByteArray) (R : List UInt8) : ∀ (l : List Sp) (c : Nat) (o : List UInt8) (g : Int) (sp : List (Nat × Nat)), c ≤ s.size → o.length ≤ c → g = (c : Int) - o.length → withinE s.size c l = true → R = (l.foldl (cutStep s.data.toList) (c, o)).2 ++ s.data.toList.drop (l.foldl (cutStep s.data.toList) (c, o)).1 →
    ((backGo s g l).foldl (putStep R) (o.length, s.data.toList.take c, sp)).2.1 ++ R.drop ((backGo s g l).foldl (putStep R) (o.length, s.data.toList.take c, sp)).1 = s.data.toList := by
  have hsl : s.data.toList.length = s.size := Array.length_toList
  intro l
  induction l with
  | nil =>
    intro c o g sp hc ho hg _ hR
    simp only [backGo, List.foldl_nil] at hR ⊢
    rw [hR, List.drop_left, List.take_append_drop]
  | cons e r ih =>
    intro c o g sp hc ho hg h hR
    unfold withinE at h
    split at h
    · cases h
    · rename_i hno
      have hm : ((s.data.toList.take e.1.toNat).drop c).length = e.1.toNat - c := by
        rw [List.length_drop, List.length_take]; omega
      have ho2 : (o ++ (s.data.toList.take e.1.toNat).drop c).length = o.length + (e.1.toNat - c) := by rw [List.length_append, hm]
      rw [List.foldl_cons] at hR
      have hst : cutStep s.data.toList (c, o) e = (e.2.toNat, o ++ (s.data.toList.take e.1.toNat).drop c) := rfl
      rw [hst] at hR
      obtain ⟨x, hx⟩ := cut_prefix s.data.toList r (e.2.toNat, o ++ (s.data.toList.take e.1.toNat).drop c)
      have hpre : R.take (o ++ (s.data.toList.take e.1.toNat).drop c).length = o ++ (s.data.toList.take e.1.toNat).drop c := by
        rw [hR, hx]
        simp only [List.append_assoc]
        rw [← List.append_assoc, List.take_left]
      have hat : (e.1 - g).toNat = (o ++ (s.data.toList.take e.1.toNat).drop c).length := by rw [ho2]; omega
      have htx : (s.extract e.1.toNat e.2.toNat).data.toList = (s.data.toList.take e.2.toNat).drop e.1.toNat := by
        rw [ByteArray.data_extract, Array.toList_extract, List.extract_eq_take_drop]
        rw [List.drop_take]
      have hstep : putStep R (o.length, s.data.toList.take c, sp) (e.1 - g, s.extract e.1.toNat e.2.toNat) = ((o ++ (s.data.toList.take e.1.toNat).drop c).length, s.data.toList.take e.2.toNat, sp ++ [((s.data.toList.take e.1.toNat).length, (s.data.toList.take e.1.toNat).length + (s.extract e.1.toNat e.2.toNat).size)]) := by
        unfold putStep
        simp only
        rw [hat, hpre, List.drop_left, htx, take_mid _ (by omega), take_mid _ (by omega)]
      unfold backGo
      rw [List.foldl_cons, hstep]
      have e2 : ((e.2.toNat : Nat) : Int) = e.2 := by omega
      exact ih e.2.toNat (o ++ (s.data.toList.take e.1.toNat).drop c) (g + (e.2 - e.1)) _ (by omega) (by rw [ho2]; omega) (by rw [ho2]; omega) (by rw [e2]; exact h) hR

theorem back_all (s R : ByteArray) (l : List Sp) (hs : s.size ≤ 65536) (h : withinE s.size 0 l = true) (hR : R.data.toList = cutL s.data.toList l) :
    rightB R.size (backGo s 0 l) = true ∧ putL R.data.toList (backGo s 0 l) = s.data.toList ∧ (R.size : Int) = s.size - goneI l := by
  obtain ⟨hpw, hbd⟩ := withinE_all (by omega) h
  have hsl : s.data.toList.length = s.size := Array.length_toList
  obtain ⟨i1, i2, -⟩ := cutSt_inv (s := s.data.toList) hpw (by rw [hsl]; exact fun e he => (hbd e he).2) l.length (Nat.le_refl _)
  rw [List.take_length] at i1 i2
  have hg : ((gone l : Nat) : Int) = goneI l := by
    have : ∀ l : List Sp, (∀ e ∈ l, e.1 < e.2 ∧ 0 ≤ e.1) → ((gone l : Nat) : Int) = goneI l := by
      intro l
      induction l with
      | nil => intro _; rfl
      | cons a l ih =>
        intro hh
        have h1 := ih (fun e he => hh e (List.mem_cons_of_mem _ he))
        have h2 := hh a (List.mem_cons_self ..)
        have h3 : gone (a :: l) = (a.2.toNat - a.1.toNat) + gone l := by simp [gone]
        rw [goneI_cons, h3]; omega
    exact this l fun e he => by have := hbd e he; omega
  have hRs : R.size = R.data.toList.length := (Array.length_toList).symm
  have hsz : (R.size : Int) = s.size - goneI l := by
    rw [hRs, hR]
    unfold cutL
    rw [List.length_append, List.length_drop, hsl]
    omega
  refine ⟨?_, ?_, hsz⟩
  · unfold rightB
    rw [if_neg (by have := gone_nonneg h; omega)]
    exact back_right s (c := 0) (by omega) (by omega) h (by omega) (by omega) (by omega)
  · have := back_put s R.data.toList l 0 [] 0 [] (by omega) (by simp) (by simp) h (by rw [hR]; rfl)
    simpa [putL, putSt] using this
end Go.Proofs.Ytgffaldoieakaaa
