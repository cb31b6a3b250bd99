/- What is put in is picked, and cut out again: the text. -/
import Derived.Test.YtgffaldoieakaaaSMath3
namespace Go.Proofs.Ytgffaldoieakaaa

def spN (p : Nat × Nat) : Sp := ((p.1 : Int), (p.2 : Int))

theorem put_prefix (s : List UInt8) : ∀ (l : List Ed) (st : Nat × List UInt8 × List (Nat × Nat)), ∃ x, (l.foldl (putStep s) st).2.1 = st.2.1 ++ x := by
  intro l
  induction l with
  | nil => intro st; exact ⟨[], by simp⟩
  | cons e l ih =>
    intro st
    obtain ⟨x, hx⟩ := ih (putStep s st e)
    exact ⟨(s.take e.1.toNat).drop st.1 ++ (e.2.data.toList ++ x), by rw [List.foldl_cons, hx]; unfold putStep; simp only [List.append_assoc]⟩

theorem put_back (s T : List UInt8) : ∀ (r : List Ed) (c : Nat) (P : List UInt8) (sp0 : List (Nat × Nat)) (b : Int), c ≤ s.length → rightE s.length c b r = true →
    T = (r.foldl (putStep s) (c, P, sp0)).2.1 ++ s.drop (r.foldl (putStep s) (c, P, sp0)).1 →
    ∃ sp1, (r.foldl (putStep s) (c, P, sp0)).2.2 = sp0 ++ sp1 ∧ withinE T.length P.length (sp1.map spN) = true ∧
      (sp1.map spN).map (fun e => (T.take e.2.toNat).drop e.1.toNat) = r.map (fun e => e.2.data.toList) ∧
      ((sp1.map spN).foldl (cutStep T) (P.length, s.take c)).2 ++ T.drop ((sp1.map spN).foldl (cutStep T) (P.length, s.take c)).1 = s := by
  intro r
  induction r with
  | nil =>
    intro c P sp0 b hc _ hT
    refine ⟨[], by simp, rfl, rfl, ?_⟩
    simp only [List.foldl_nil] at hT
    simp only [List.map_nil, List.foldl_nil]
    rw [hT, List.drop_left, List.take_append_drop]
  | cons e r ih =>
    intro c P sp0 b hc h hT
    unfold rightE at h
    split at h
    · cases h
    · rename_i hno
      obtain ⟨z, hz⟩ : ∃ z : Nat, e.1 = (z : Int) := ⟨e.1.toNat, by omega⟩
      obtain ⟨o1, ho1⟩ : ∃ o1, P ++ (s.take z).drop c = o1 := ⟨_, rfl⟩
      have hst : putStep s (c, P, sp0) e = (z, o1 ++ e.2.data.toList, sp0 ++ [(o1.length, o1.length + e.2.size)]) := by
        unfold putStep; simp only [hz, Int.toNat_natCast, ho1]
      have hsz : e.2.data.toList.length = e.2.size := Array.length_toList
      have hol : o1.length = P.length + (z - c) := by
        rw [← ho1, List.length_append, List.length_drop, List.length_take]; omega
      rw [List.foldl_cons, hst] at hT ⊢
      rw [hz] at h
      obtain ⟨sp1, h1, h2, h3, h4⟩ := ih z (o1 ++ e.2.data.toList) _ (b - e.2.size) (by omega) h hT
      obtain ⟨x, hx⟩ := put_prefix s r (z, o1 ++ e.2.data.toList, sp0 ++ [(o1.length, o1.length + e.2.size)])
      simp only at hx
      have hTl : T = o1 ++ (e.2.data.toList ++ (x ++ s.drop (r.foldl (putStep s) (z, o1 ++ e.2.data.toList, sp0 ++ [(o1.length, o1.length + e.2.size)])).1)) := by
        rw [hT, hx]; simp only [List.append_assoc]
      have ht1 : T.take o1.length = o1 := by rw [hTl, List.take_left]
      have ht2 : T.take (o1.length + e.2.size) = o1 ++ e.2.data.toList := by
        rw [hTl, ← List.append_assoc, show o1.length + e.2.size = (o1 ++ e.2.data.toList).length by rw [List.length_append, hsz], List.take_left]
      have hlen : (o1 ++ e.2.data.toList).length = o1.length + e.2.size := by rw [List.length_append, hsz]
      have hTlen : o1.length + e.2.size ≤ T.length := by
        have := congrArg List.length ht2
        rw [List.length_take, hlen] at this
        omega
      rw [hlen] at h2 h4
      refine ⟨(o1.length, o1.length + e.2.size) :: sp1, by rw [h1]; simp, ?_, ?_, ?_⟩
      · rw [List.map_cons]
        unfold withinE
        rw [if_neg (by simp only [spN]; omega)]
        exact h2
      · rw [List.map_cons, List.map_cons, List.map_cons, h3]
        simp only [spN, Int.toNat_natCast]
        rw [ht2, List.drop_left]
      · rw [List.map_cons, List.foldl_cons]
        have hcs : cutStep T (P.length, s.take c) (spN (o1.length, o1.length + e.2.size)) = (o1.length + e.2.size, s.take z) := by
          unfold cutStep
          simp only [spN, Int.toNat_natCast]
          rw [ht1, ← ho1, List.drop_left, take_mid _ (by omega)]
        rw [hcs]
        exact h4

theorem put_all (s : ByteArray) (l : List Ed) (h : rightB s.size l = true) (t : ByteArray) (ht : t = ⟨(putL s.data.toList l).toArray⟩) :
    withinE t.size 0 ((putSt s.data.toList l).2.2.map spN) = true ∧ pickB t ((putSt s.data.toList l).2.2.map spN) = l.map (·.2) ∧ cutL t.data.toList ((putSt s.data.toList l).2.2.map spN) = s.data.toList ∧ t.size ≤ 65536 := by
  obtain ⟨hn6, hpw, hbd, hsz6⟩ := rightB_all h
  have hsl : s.data.toList.length = s.size := Array.length_toList
  have htl : t.data.toList = putL s.data.toList l := by rw [ht]
  have hts : t.size = (putL s.data.toList l).length := by rw [← htl]; exact (Array.length_toList).symm
  unfold rightB at h
  rw [if_neg (by omega)] at h
  obtain ⟨sp1, h1, h2, h3, h4⟩ := put_back s.data.toList (putL s.data.toList l) l 0 [] [] (65536 - s.size) (Nat.zero_le _) (by rw [hsl]; exact h) rfl
  have e1 : (putSt s.data.toList l).2.2 = sp1 := by unfold putSt; rw [h1]; rfl
  rw [e1]
  refine ⟨by rw [hts]; exact h2, ?_, by rw [htl]; exact h4, ?_⟩
  · unfold pickB
    have inj : ∀ a b : List ByteArray, a.map (fun x => x.data.toList) = b.map (fun x => x.data.toList) → a = b := by
      intro a
      induction a with
      | nil => intro b hb; cases b with
        | nil => rfl
        | cons y b => simp at hb
      | cons x a ih => intro b hb; cases b with
        | nil => simp at hb
        | cons y b =>
          rw [List.map_cons, List.map_cons] at hb
          injection hb with g1 g2
          rw [ih b g2]
          congr 1
          exact ByteArray.ext (Array.toList_inj.1 g1)
    apply inj
    rw [List.map_map (g := fun x : ByteArray => x.data.toList) (f := fun x : Ed => x.2)]
    refine Eq.trans ?_ (show _ = l.map ((fun x : ByteArray => x.data.toList) ∘ fun x : Ed => x.2) from h3)
    rw [List.map_map]
    refine List.map_congr_left fun e _ => ?_
    simp only [Function.comp]
    rw [ByteArray.data_extract, Array.toList_extract, List.extract_eq_take_drop, htl, List.drop_take]
  · obtain ⟨-, i2, -⟩ := putSt_inv (s := s.data.toList) hpw (by rw [hsl]; exact hbd) l.length (Nat.le_refl _)
    rw [List.take_length] at i2
    rw [hts]
    unfold putL
    rw [List.length_append, List.length_drop, i2, hsl]
    obtain ⟨i1, -⟩ := putSt_inv (s := s.data.toList) hpw (by rw [hsl]; exact hbd) l.length (Nat.le_refl _)
    rw [List.take_length, hsl] at i1
    omega
end Go.Proofs.Ytgffaldoieakaaa
