/- What is known of the tokens; how calls of the parser's small functions turn what is held. -/
import Derived.Test.YtoahgeleenpnjaaGreatDoorE27
set_option linter.unusedVariables false
set_option linter.unusedSimpArgs false
namespace Go.Proofs.YtoahgeleenpnjaaGreatDoor
open Go.RowKit

/-- The keys and signs that the parser asks for. -/
def KS : List (List UInt8) := [[108, 101, 116], [105, 102], [97, 115, 115, 101, 114, 116], [61, 62], [124, 124], [38, 38], [110, 111, 116], [61], [60, 62], [60], [60, 61], [62], [62, 61], [43], [45], [42], [47], [37], [116, 114, 117, 101], [102, 97, 108, 115, 101], [114, 101, 115], [40], [41], [46], [44], [105, 109, 112, 111, 114, 116], [112, 117, 98], [102, 117, 110], [59], [58], [105, 110, 116], [98, 111, 111, 108], [123], [125], [105, 110], [116, 104, 101, 110], [101, 108, 115, 101]]
structure TokC (T : List Tok) : Prop where
  len : T.length ≤ 40000
  short : Short T
  ends : EndT T
  keys : ∀ (i : Nat) (t : Tok), T[i]? = some t → t.text ∈ KS → t.kind = 2 ∨ t.kind = 4
theorem tok_keys {T : List Tok} (h : TokC T) {s : St} (ht : (tokQ T s).text ∈ KS) : (tokQ T s).kind = 2 ∨ (tokQ T s).kind = 4 := by
  unfold tokQ at ht ⊢
  cases hq : T[s.i]? with
  | none => rw [hq] at ht; exact absurd ht (by decide)
  | some t => rw [hq] at ht; exact h.keys _ _ hq ht
theorem at_any {T : List Tok} (h : TokC T) {ws : List (List UInt8)} (hw : ∀ x ∈ ws, x ∈ KS) (s : St) : atQ T ws s = ws.any fun x => isQ T x s := by
  unfold atQ isQ
  by_cases he : s.e = 0
  · rw [decide_eq_true he, Bool.true_and]
    by_cases hm : (tokQ T s).text ∈ ws
    · rw [decide_eq_true hm]
      exact (List.any_eq_true.2 ⟨_, hm, decide_eq_true ⟨he, tok_keys h (hw _ hm), rfl⟩⟩).symm
    · rw [decide_eq_false hm]
      refine (List.any_eq_false.2 fun x hx => ?_).symm
      have : ¬ (s.e = 0 ∧ ((tokQ T s).kind = 2 ∨ (tokQ T s).kind = 4) ∧ (tokQ T s).text = x) := fun e => hm (e.2.2 ▸ hx)
      rw [decide_eq_false this]; decide
  · rw [decide_eq_false he, Bool.false_and]
    refine (List.any_eq_false.2 fun x hx => ?_).symm
    have : ¬ (s.e = 0 ∧ ((tokQ T s).kind = 2 ∨ (tokQ T s).kind = 4) ∧ (tokQ T s).text = x) := fun e => he e.1
    rw [decide_eq_false this]; decide
theorem at_one {T : List Tok} (h : TokC T) {x : List UInt8} (hx : x ∈ KS) (s : St) : atQ T [x] s = isQ T x s := by
  rw [at_any h (fun y hy => by rw [List.mem_singleton.1 hy]; exact hx)]; simp
theorem keys_of {T : List Tok} (h : TokC T) {ws : List (List UInt8)} (hw : ∀ x ∈ ws, x ∈ KS) : KeysT T ws := fun s hs => by
  rw [at_any h hw] at hs
  obtain ⟨x, -, hx⟩ := List.any_eq_true.1 hs
  exact is_kind hx
theorem mus_one {T : List Tok} (h : TokC T) {x : List UInt8} (hx : x ∈ KS) (s : St) : musT T [x] s = mustT T x s := by
  unfold musT mustT; rw [at_one h hx]

section
variable {b bb : Nat} {T : List Tok} {D n : Nat} {A0 : Nat → Prop} {vn0 : Value} {w0 w w' : World} {s : St} {u : Nat} {N : List Nd} {vn : Value} {L : List (Value × Th)}
theorem KX.ints1 (h : KX b bb T D n A0 vn0 w0 w s u N vn L) (a : Int) : KX b bb T D n A0 vn0 w0 (w.alloc (.cells #[.int .i64 a] 3)) s u N vn ((.slice (some ⟨w.heap.size, 0, none⟩) 1 1, .ints [a]) :: L) := h.ints [a] (by simp) (by simp)
theorem KX.ints2 (h : KX b bb T D n A0 vn0 w0 w s u N vn L) (a c : Int) : KX b bb T D n A0 vn0 w0 (w.alloc (.cells #[.int .i64 a, .int .i64 c] 3)) s u N vn ((.slice (some ⟨w.heap.size, 0, none⟩) 2 2, .ints [a, c]) :: L) := h.ints [a, c] (by simp) (by simp)
theorem KX.ints3 (h : KX b bb T D n A0 vn0 w0 w s u N vn L) (a c d : Int) : KX b bb T D n A0 vn0 w0 (w.alloc (.cells #[.int .i64 a, .int .i64 c, .int .i64 d] 3)) s u N vn ((.slice (some ⟨w.heap.size, 0, none⟩) 3 3, .ints [a, c, d]) :: L) := h.ints [a, c, d] (by simp) (by simp)
theorem KX.ints4 (h : KX b bb T D n A0 vn0 w0 w s u N vn L) (a c d e : Int) : KX b bb T D n A0 vn0 w0 (w.alloc (.cells #[.int .i64 a, .int .i64 c, .int .i64 d, .int .i64 e] 3)) s u N vn ((.slice (some ⟨w.heap.size, 0, none⟩) 4 4, .ints [a, c, d, e]) :: L) := h.ints [a, c, d, e] (by simp) (by simp)
theorem KX.ints6 (h : KX b bb T D n A0 vn0 w0 w s u N vn L) (a c d e f g : Int) : KX b bb T D n A0 vn0 w0 (w.alloc (.cells #[.int .i64 a, .int .i64 c, .int .i64 d, .int .i64 e, .int .i64 f, .int .i64 g] 3)) s u N vn ((.slice (some ⟨w.heap.size, 0, none⟩) 6 6, .ints [a, c, d, e, f, g]) :: L) := h.ints [a, c, d, e, f, g] (by simp) (by simp)

theorem KX.at {v : Value} {ws : List (List UInt8)} (hk : KX b bb T D n A0 vn0 w0 w s u N vn L) (hm : (v, Th.strs ws) ∈ L) (hn : ws.length ≤ 100) :
    Calls Tryz.prog 78 #[.pointer (some ⟨b, 0, none⟩), v] w fun e w' => e = .returned (.bool (atQ T ws s)) ∧ KX b bb T D n A0 vn0 w0 w' s u N vn L :=
  hk.val fun A h => at_c b bb T D n s u N vn v A ws w hn h (hk.str hm)
theorem KX.atx {v : Value} {ws : List (List UInt8)} (hk : KX b bb T D n A0 vn0 w0 w s u N vn L) (hm : ∃ v', v' = v ∧ (v', Th.strs ws) ∈ L) (hn : ws.length ≤ 100) :
    Calls Tryz.prog 78 #[.pointer (some ⟨b, 0, none⟩), v] w fun e w' => e = .returned (.bool (atQ T ws s)) ∧ KX b bb T D n A0 vn0 w0 w' s u N vn L := by
  obtain ⟨v', rfl, hm⟩ := hm
  exact hk.at hm hn
theorem KX.kind (hk : KX b bb T D n A0 vn0 w0 w s u N vn L) (k : Nat) :
    Calls Tryz.prog 87 #[.pointer (some ⟨b, 0, none⟩), .int .i64 (k : Int)] w fun e w' => e = .returned (.bool (decide (s.e = 0 ∧ (tokQ T s).kind = k))) ∧ KX b bb T D n A0 vn0 w0 w' s u N vn L :=
  hk.val fun A h => atKind_c b bb T D n s u N vn A k w h
/-- What a call in a row of calls leaves. -/
def CPost (b bb : Nat) (T : List Tok) (D n k : Nat) (A0 : Nat → Prop) (vn0 : Value) (w0 : World) (s : St) (r : RT) (N : List Nd) (L : List (Value × Th)) (e : Ending) (w' : World) : Prop :=
  ∃ (v : Int) (N' : List Nd) (vn' : Value), e = .returned (.int .i64 v) ∧ KX b bb T D n A0 vn0 w0 w' r.2 r.2.i N' vn' L ∧ OutD k N s r N' [v] ∧ (s.e ≠ 0 → r.2.e ≠ 0)
theorem KX.take (hk : KX b bb T D n A0 vn0 w0 w s s.i N vn L) (hC : TokC T) (h5 : (tokQ T s).kind ≠ 5) (he : s.e = 0) : Calls Tryz.prog 81 #[.pointer (some ⟨b, 0, none⟩)] w (CPost b bb T D n 1 A0 vn0 w0 s (leafT T s) N L) :=
  hk.call fun A h => take_i b bb T D n hC.len hC.short hC.ends s N vn A w h5 he h
theorem KX.one {v : Value} {ws : List (List UInt8)} (hk : KX b bb T D n A0 vn0 w0 w s s.i N vn L) (hC : TokC T) (hm : (v, Th.strs ws) ∈ L) (hn : ws.length ≤ 100) (hw : ∀ x ∈ ws, x ∈ KS) : Calls Tryz.prog 80 #[.pointer (some ⟨b, 0, none⟩), v] w (CPost b bb T D n 1 A0 vn0 w0 s (musT T ws s) N L) :=
  hk.call fun A h => one_c b bb T D n hC.len hC.short hC.ends ws hn (keys_of hC hw) s N vn v A w h (hk.str hm)
theorem KX.one1 {v : Value} (x : List UInt8) (hk : KX b bb T D n A0 vn0 w0 w s s.i N vn L) (hC : TokC T) (hw : x ∈ KS) (hm : ∃ v', v' = v ∧ (v', Th.strs [x]) ∈ L) : Calls Tryz.prog 80 #[.pointer (some ⟨b, 0, none⟩), v] w (CPost b bb T D n 1 A0 vn0 w0 s (mustT T x s) N L) := by
  obtain ⟨v', rfl, hm⟩ := hm
  rw [← mus_one hC hw]
  exact hk.one hC hm (by simp) (fun y hy => by rw [List.mem_singleton.1 hy]; exact hw)
theorem KX.oneOf (hk : KX b bb T D n A0 vn0 w0 w s s.i N vn L) (hC : TokC T) (k : Nat) (hk5 : k ≠ 5) : Calls Tryz.prog 53 #[.pointer (some ⟨b, 0, none⟩), .int .i64 (k : Int)] w (CPost b bb T D n 1 A0 vn0 w0 s (kindT T k s) N L) :=
  hk.call fun A h => oneOf_c b bb T D n hC.len hC.short hC.ends k hk5 s N vn A w h
theorem KX.word (hk : KX b bb T D n A0 vn0 w0 w s s.i N vn L) (hC : TokC T) : Calls Tryz.prog 53 #[.pointer (some ⟨b, 0, none⟩), .int .i64 1] w (CPost b bb T D n 1 A0 vn0 w0 s (kindT T 1 s) N L) := hk.oneOf hC 1 (by decide)
theorem KX.sub {P : St → Prop} {f : Nat} {sub : St → RT} (hk : KX b bb T D n A0 vn0 w0 w s s.i N vn L) (hC : SubI b bb T D n P f sub) (hP : P s) : Calls Tryz.prog f #[.pointer (some ⟨b, 0, none⟩)] w (CPost b bb T D n 0 A0 vn0 w0 s (sub s) N L) :=
  hk.call fun A h => hC s N vn A w hP h
theorem KX.fail (hk : KX b bb T D n A0 vn0 w0 w s s.i N vn L) (m : Nat) (hm : m ≠ 0) : Calls Tryz.prog 79 #[.pointer (some ⟨b, 0, none⟩), .int .i64 (m : Int)] w (CPost b bb T D n 0 A0 vn0 w0 s ([], failQ T m s) N L) :=
  hk.call fun A h => (pfail_c b bb T D n m s s.i N vn A w h).mono (by
    rintro e w' ⟨rfl, h2, h3⟩
    exact IPost.fail hm h2 h3)
/-- What a function answers in the end. -/
theorem KX.fin {k : Nat} {r r' : RT} {s0 : St} {N0 : List Nd} {x : Int} {w' : World} {N' : List Nd} {vn' : Value} (ho : OutD k N0 s0 r N' [x]) (hk : KX b bb T D n A0 vn0 w0 w' r.2 r.2.i N' vn' L) (hd : s0.e ≠ 0 → r.2.e ≠ 0) (he : Eqv r r') : IPost b bb T D n 0 s0 r' N0 vn0 A0 w0 (.returned (.int .i64 x)) w' := by
  obtain ⟨h1, h2⟩ := hk.done
  exact IPost.eqv ⟨x, N', vn', rfl, h1, h2, ho.weak (Nat.zero_le _), hd⟩ he
end
end Go.Proofs.YtoahgeleenpnjaaGreatDoor
