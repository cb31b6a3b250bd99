/- Words, numbers and blanks of so many bytes. -/
import Derived.Test.YtohdpodnfgdnbaaDoorEMath2
namespace Go.Proofs.YtohdpodnfgdnbaaDoor

theorem lexG_nil (f p : Nat) : (lexG (f + 1) [] p).2 = (0, 0) := by
  have hk : (tokE [] p).kind = 5 := rfl
  rw [lexG_end (by rw [hk]; rfl) hk]

theorem one_bad {l : List UInt8} {f p a k z e : Nat} (hs : sk false l = a) (hf : firstE (l.drop a) = (k, z)) (hw : wrongE k ((l.drop a).take z) = e) (he : e ≠ 0) : (lexG (f + 1) l p).2 = (e, p + a) := by
  have ht : tokE l p = ⟨k, l.take a, (l.drop a).take z, p + a⟩ := by unfold tokE; rw [hs, hf]
  rw [lexG_fault (by rw [ht]; simp only; rw [hw]; exact he), ht]
  simp only; rw [hw]

theorem one_good {l : List UInt8} {f p a k z : Nat} (hs : sk false l = a) (hf : firstE (l.drop a) = (k, z)) (hw : wrongE k ((l.drop a).take z) = 0) (hk : k ≠ 5) : (lexG (f + 1) l p).2 = (lexG f (l.drop (a + z)) (p + (a + z))).2 := by
  have ht : tokE l p = ⟨k, l.take a, (l.drop a).take z, p + a⟩ := by unfold tokE; rw [hs, hf]
  have hst : stepE l = a + z := by unfold stepE; rw [hs, hf]
  rw [lexG_more (by rw [ht]; exact hw) (by rw [ht]; exact hk), hst]

theorem runN_rep {p : UInt8 → Bool} {a : UInt8} (h : p a = true) (n : Nat) : runN p (List.replicate n a) = n := by
  have := runN_all p (T := List.replicate n a) (X := []) (fun b hb => by rw [(List.mem_replicate.1 hb).2]; exact h) (fun b hb => by cases hb)
  rw [List.append_nil, List.length_replicate] at this
  exact this

theorem rep_cons {a : UInt8} {n : Nat} (hn : 1 ≤ n) : List.replicate n a = a :: List.replicate (n - 1) a := by
  obtain ⟨m, rfl⟩ : ∃ m, n = m + 1 := ⟨n - 1, by omega⟩
  rfl

theorem sk_rep {a : UInt8} {n : Nat} (hn : 1 ≤ n) (hb : isBl a = false) (h45 : a ≠ 45) : sk false (List.replicate n a) = 0 := by
  rw [rep_cons hn]; simp [sk, hb, h45]

theorem let_not {a : UInt8} (h : isLet a = true) : isBl a = false ∧ a ≠ 45 ∧ inW a = true := by
  refine ⟨?_, ?_, by simp [inW, h]⟩
  · rw [← Bool.not_eq_true]; intro hb
    have := (bl_no hb).1
    unfold inW at this; rw [h] at this; cases this
  · rintro rfl; exact absurd h (by decide)
where
  bl_no {b : UInt8} (h : isBl b = true) : inW b = false ∧ isDig b = false := by
    unfold isBl at h
    simp only [Bool.or_eq_true, beq_iff_eq] at h
    rcases h with ((rfl | rfl) | rfl) | rfl <;> decide

theorem dig_not {a : UInt8} (h : isDig a = true) : isBl a = false ∧ a ≠ 45 ∧ isLet a = false := by
  refine ⟨?_, ?_, ?_⟩
  · rw [← Bool.not_eq_true]; intro hb
    have := (let_not.bl_no hb).2
    rw [h] at this; cases this
  · rintro rfl; exact absurd h (by decide)
  · rw [isDig_nat] at h
    rw [isLet_nat]
    simp at h ⊢
    omega

theorem lim_word {a : UInt8} (ha : isLet a = true) {n : Nat} (hn : 1 ≤ n) : (allE (32 :: List.replicate n a)).2 = if n ≤ 40 then (0, 0) else (20, 1) := by
  obtain ⟨h1, h2, h3⟩ := let_not ha
  have hs : sk false (32 :: List.replicate n a) = 1 := by
    have := sk_rep hn h1 h2
    simp [sk, isBl, this]
  have hd : (32 :: List.replicate n a).drop 1 = List.replicate n a := rfl
  have hr := runN_rep h3 n
  have hdn : (32 :: List.replicate n a).drop (1 + n) = [] := List.drop_of_length_le (by simp; omega)
  unfold allE
  by_cases h40 : n ≤ 40
  · obtain ⟨t1, t2⟩ := tok_word (rep_cons hn) ha hr h40 rfl
    rw [if_pos h40, one_good (l := 32 :: List.replicate n a) hs t1 t2 (by split <;> omega), hdn]
    simp only [List.length_cons, List.length_replicate]
    exact lexG_nil n _
  · obtain ⟨t1, t2⟩ := tok_long (rep_cons hn) ha hr (by omega)
    rw [if_neg h40, one_bad (l := 32 :: List.replicate n a) hs t1 t2 (by decide)]

theorem lim_num {d : UInt8} (hdg : isDig d = true) (h48 : d ≠ 48) {n : Nat} (hn : 1 ≤ n) : (allE (40 :: List.replicate n d)).2 = if n ≤ 60 then (0, 0) else (21, 1) := by
  obtain ⟨h1, h2, h3⟩ := dig_not hdg
  have hs : sk false (40 :: List.replicate n d) = 0 := by simp [sk, isBl]
  have hf : firstE (40 :: List.replicate n d) = (4, 1) := by
    have hsg : signN (40 :: List.replicate n d) = 1 := signN_one (fun g hg => by
      have hh : ∀ g ∈ twosL, g.head? ≠ some 40 ∧ g ≠ [] := by decide
      obtain ⟨e1, e2⟩ := hh g hg
      cases g with
      | nil => exact absurd rfl e2
      | cons x X => simp [List.isPrefixOf] at e1 ⊢; intro e; exact absurd e e1) (by decide)
    rw [firstE_cons, if_neg (by decide), if_neg (by decide), hsg]; rfl
  have hd1 : (40 :: List.replicate n d).drop (0 + 1) = List.replicate n d := rfl
  have hs2 := sk_rep hn h1 h2
  obtain ⟨t1, t2⟩ := tok_dig (rep_cons hn) h3 hdg (runN_rep hdg n)
  unfold allE
  simp only [List.length_cons, List.length_replicate]
  rw [one_good hs hf rfl (by decide), hd1]
  by_cases h60 : n ≤ 60
  · rw [if_neg (by rintro (h | h); omega; exact h48 h.2)] at t2
    rw [if_pos h60, one_good hs2 t1 t2 (by decide), List.drop_of_length_le (by simp)]
    obtain ⟨m, rfl⟩ : ∃ m, n = m + 1 := ⟨n - 1, by omega⟩
    exact lexG_nil m _
  · rw [if_pos (.inl (by omega))] at t2
    rw [if_neg h60, one_bad hs2 t1 t2 (by decide)]

theorem lim_zero {d : UInt8} (hdg : isDig d = true) {n : Nat} (hn : 1 ≤ n) : (allE (48 :: List.replicate n d)).2 = (21, 0) := by
  have hs : sk false (48 :: List.replicate n d) = 0 := by simp [sk, isBl]
  have hr : runN isDig (48 :: List.replicate n d) = n + 1 := by
    have := runN_rep hdg n
    simp only [runN, this]; rfl
  obtain ⟨t1, t2⟩ := tok_dig (l := 48 :: List.replicate n d) rfl (by decide) (by decide) hr
  rw [if_pos (.inr ⟨by omega, rfl⟩)] at t2
  unfold allE
  rw [one_bad hs t1 t2 (by decide)]

theorem lim_blank (m : Nat) : allE (List.replicate m 32) = ([⟨5, List.replicate m 32, [], m⟩], 0, 0) := by
  have hs : ∀ m, sk false (List.replicate m 32) = m := by
    intro m
    induction m with
    | zero => rfl
    | succ m ih => rw [List.replicate_succ]; simp [sk, isBl, ih]
  have ht : tokE (List.replicate m 32) 0 = ⟨5, List.replicate m 32, [], m⟩ := by
    unfold tokE
    rw [hs, List.drop_of_length_le (by simp), List.take_of_length_le (by simp), Nat.zero_add]
    rfl
  unfold allE
  rw [lexG_end (by rw [ht]; rfl) (by rw [ht]), ht]
end Go.Proofs.YtohdpodnfgdnbaaDoor
