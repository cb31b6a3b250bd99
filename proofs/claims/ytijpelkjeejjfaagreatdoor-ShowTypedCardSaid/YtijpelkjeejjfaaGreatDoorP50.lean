/- Lemmas. -/
import Derived.Test.YtijpelkjeejjfaaGreatDoorP17
import Derived.Test.YtijpelkjeejjfaaGreatDoorP32
import Derived.Test.YtijpelkjeejjfaaGreatDoorP48
set_option linter.unusedVariables false
set_option linter.unusedSimpArgs false
namespace Go.Proofs.YtijpelkjeejjfaaGreatDoor
open Go.RowKit

mutual
theorem right_fit {f : Bool} : ∀ {x : Sx}, rightB f x = true → okS x → fitS x
  | .mk op nm md nu ys ks ps, h, ho => by
    simp only [rightB, aloneB, Bool.and_eq_true] at h
    simp only [okS] at ho
    simp only [fitS]
    exact ⟨⟨of_decide_eq_true h.1.2.1.1.1.1.1, of_decide_eq_true h.1.2.1.1.1.1.2, h.1.2.1.1.1.2, ho.1.1, ho.1.2.1, ho.1.2.2⟩, right_fits h.2 ho.2⟩
theorem right_fits {f : Bool} : ∀ {l : List Sx}, rightBs f l = true → okSs l → fitSs l
  | [], _, _ => by simp [fitSs]
  | x :: l, h, ho => by
    simp only [rightBs, Bool.and_eq_true] at h
    simp only [okSs] at ho
    simp only [fitSs]
    exact ⟨right_fit h.1 ho.1, right_fits h.2 ho.2⟩
end
theorem fr_gb {w w' : World} {S : Nat → Prop} (h : Fr2 S w w') (hS : ∀ k, S k → w.heap.size ≤ k) : w.grownBy w' none := below_gb (h.below (Nat.le_refl _) hS)
theorem LaidW.lt {w : World} (h : LaidW w) : 0 < w.heap.size := by
  have := h 0 _ rfl
  rcases Nat.lt_or_ge 0 w.heap.size with h1 | h1
  · exact h1
  · exfalso; simp [World.cell?, Array.getElem?_eq_none h1] at this
set_option maxRecDepth 100000 in
set_option maxHeartbeats 16000000 in
theorem exprText_c (F : Nat → Prop) (g o : Nat) (x : Sx) (q : List Value) (w : World) (hla : LaidW w) (hx : SAt F w x q) (hF : ∀ k, F k → k < w.heap.size) (hg : g < w.heap.size) (hc : ∀ i v, q[i]? = some v → w.cell? ⟨g, o + i, none⟩ = some v) (hfit : fitS x) (hwg : wgS x ≤ 500000) (ht : (txS x).length ≤ 1000000000) :
    Calls Tryz.prog 26 #[.pointer (some ⟨g, o, none⟩)] w (fun e w' => e = .returned (.string ⟨(txS x).toArray⟩) ∧ w.grownBy w' none) := by
  have hga := World.grownBy_alloc w (.cells #[.slice none 0 0] 58) none
  have hW : WrAt (fun k => k < w.heap.size) (w.heap.size + 1) w.heap.size (w.alloc (.cells #[.slice none 0 0] 58)) [] :=
    ⟨.slice none 0 0, heap_alloc_new w _, OwnG.nil _ _ _ _, by omega, by simp, by omega, fun k hk => by simp [Value.ownBlock] at hk, fun k hk => by simp; omega⟩
  have HE := Lib.hid (expr_c9 _ _ _ [] (some ⟨g, o, none⟩) (0 : Int) _ hW (by simp))
  have HT : Hid (∀ w2, WrAt (fun k => k < w.heap.size) (w.heap.size + 1) w.heap.size w2 [rowX g o 0] → Fr2 (fun k => ¬ k < w.heap.size) w w2 → Calls Tryz.prog 22 #[.pointer (some ⟨w.heap.size, 0, none⟩)] w2 (fun e w' => e = .returned (.string ⟨(txS x).toArray⟩) ∧ Fr2 (fun k => ¬ k < w.heap.size) w2 w')) := Lib.hid (fun w2 h2 hf => by
    have hp : PcsAt (fun k => F k ∨ k = g) w2 [.ex x 0] [rowX g o 0] := ⟨_, _, rfl, ⟨g, o, q, rfl, .inr rfl, Nat.lt_of_lt_of_le hg hf.size, (hx.same hf (fun k hk e => e (hF k hk))).mono (fun k hk => .inl hk), fun i v hi => by rw [World.cell?_of_block (w := w) (hf.block g hg (fun e => e hg))]; exact hc i v hi⟩, rfl⟩
    have htx : textPs [.ex x 0] = txS x := by simp [textPs, textP, wrapS, wrapT0]
    have := text_c9 (fun k => k < w.heap.size) (fun k => F k ∨ k = g) (w.heap.size + 1) w.heap.size [rowX g o 0] [.ex x 0] w2 h2 hp (by simp) (by simp [wgPs, wgP]; exact hwg) (by simp) (fun k hk => by rcases hk with hk | rfl; exact hF k hk; exact hg) hla.lt (hla.same hf hla.lt hla.lt) (fun p hp => by simp at hp; subst hp; exact hfit) (by rw [htx]; exact ht)
    rw [htx] at this
    exact this)
  have HG := Lib.hid hga
  clear hla hx hF hc hfit hwg ht hW hga
  obtain ⟨T, hT⟩ : ∃ T, txS x = T := ⟨_, rfl⟩
  rw [hT] at HT ⊢
  clear hT
  go_enter Tryz.func26, Tryz.ntmps26
  go_wp2_with fail
  refine HE.out.mono ?_
  rintro e w2 ⟨rfl, hw2, hf2⟩
  have hf : Fr2 (fun k => ¬ k < w.heap.size) w w2 := (Fr2.none HG.out).trans hf2
  have HT2 := Lib.hid (HT.out w2 hw2 hf)
  have HF := Lib.hid hf
  clear hw2 hf2 hf HT HE
  go_wp2_with fail
  refine HT2.out.mono ?_
  rintro e w3 ⟨rfl, hf3⟩
  have HG3 := Lib.hid (fr_gb (HF.out.trans hf3) (fun k hk => by omega))
  clear hf3
  go_wp2_with fail
  go_ret
  exact ⟨rfl, HG3.out⟩

set_option maxRecDepth 100000 in
set_option maxHeartbeats 16000000 in
theorem isFormula_c (F : Nat → Prop) (a0 : Addr) (x0 : Sx) (q0 : List Value) (w : World) (hla : LaidE w) (hc : CAt w a0 q0) (hx : SAt F w x0 q0) (hsz : sizS x0 ≤ 1000000) (hok : okS x0) (hF : ∀ k, F k → k < w.heap.size) :
    Calls Tryz.prog 25 #[.pointer (some a0)] w (TruePost (rightB true x0) w) := by
  have HR := Lib.hid (isRight_c true 51 (.inl ⟨rfl, rfl⟩) F a0 x0 q0 w hla hc hx hsz hok hF)
  clear hla hc hx hsz hok hF
  go_enter Tryz.func25, Tryz.ntmps25
  go_wp2_with fail
  refine HR.out.mono ?_
  rintro e w2 ⟨rfl, hg⟩
  have HG := Lib.hid hg
  clear hg
  go_wp2_with fail
  go_ret
  exact ⟨rfl, HG.out⟩

set_option maxRecDepth 100000 in
set_option maxHeartbeats 16000000 in
theorem isBody_c (F : Nat → Prop) (a0 : Addr) (x0 : Sx) (q0 : List Value) (w : World) (hla : LaidE w) (hc : CAt w a0 q0) (hx : SAt F w x0 q0) (hsz : sizS x0 ≤ 1000000) (hok : okS x0) (hF : ∀ k, F k → k < w.heap.size) :
    Calls Tryz.prog 27 #[.pointer (some a0)] w (TruePost (rightB false x0) w) := by
  have HR := Lib.hid (isRight_c false 52 (.inr ⟨rfl, rfl⟩) F a0 x0 q0 w hla hc hx hsz hok hF)
  clear hla hc hx hsz hok hF
  go_enter Tryz.func27, Tryz.ntmps27
  go_wp2_with fail
  refine HR.out.mono ?_
  rintro e w2 ⟨rfl, hg⟩
  have HG := Lib.hid hg
  clear hg
  go_wp2_with fail
  go_ret
  exact ⟨rfl, HG.out⟩
/-- What is told of an expression's text: it, or an error. -/
def ShowPost (f : Bool) (x : Sx) (w : World) (e : Ending) (w' : World) : Prop := e = .returned (.tuple #[.string ⟨(if rightB f x then txS x else []).toArray⟩, .int .i64 (if rightB f x then 0 else 10)]) ∧ w.grownBy w' none

set_option maxRecDepth 100000 in
set_option maxHeartbeats 16000000 in
theorem Formula_c (F : Nat → Prop) (x : Sx) (q : List Value) (w : World) (hla : LaidE w) (hlw : LaidW w) (hx : SAt F w x q) (hF : ∀ k, F k → k < w.heap.size) (hsz : sizS x ≤ 1000000) (hok : okS x) (hwg : wgS x ≤ 500000) (ht : (txS x).length ≤ 1000000000) :
    Calls Tryz.prog 10 #[.agg q.toArray] w (ShowPost true x w) := by
  have hga := World.grownBy_alloc w (.cells q.toArray 31) none
  have hbk := heap_alloc_new w (.cells q.toArray 31)
  have hcs : ∀ i v, q[i]? = some v → (w.alloc (.cells q.toArray 31)).cell? ⟨w.heap.size, 0 + i, none⟩ = some v := fun i v hi => by
    rw [Nat.zero_add, cell_of_row _ w.heap.size i _ _ (0, 0) hbk]; simpa using hi
  have hsz1 : (w.alloc (.cells q.toArray 31)).heap.size = w.heap.size + 1 := by simp
  have hx1 := hx.kept hga
  have hF1 : ∀ k, F k → k < (w.alloc (.cells q.toArray 31)).heap.size := fun k hk => by have := hF k hk; omega
  have HI := Lib.hid (isFormula_c F ⟨w.heap.size, 0, none⟩ x q _ (hla.kept hga) ⟨_, _, rfl, ⟨by omega, _, _, hbk⟩, hcs⟩ hx1 hsz hok hF1)
  have HT : Hid (rightB true x = true → ∀ w2, (w.alloc (.cells q.toArray 31)).grownBy w2 none → Calls Tryz.prog 26 #[.pointer (some ⟨w.heap.size, 0, none⟩)] w2 (fun e w' => e = .returned (.string ⟨(txS x).toArray⟩) ∧ w2.grownBy w' none)) := Lib.hid (fun hr w2 hg => by
    refine exprText_c F w.heap.size 0 x q w2 (fun j l hj => hg.cell (hga.cell (hlw j l hj) (by simp)) (by simp)) (hx1.kept hg) (fun k hk => Nat.lt_of_lt_of_le (hF1 k hk) hg.size) (Nat.lt_of_lt_of_le (by omega) hg.size) (fun i v hi => hg.cell (hcs i v hi) (by simp)) (right_fit hr hok) hwg ht)
  obtain ⟨v0, v1, v2, v3, v4, v5, v6, v7, rfl⟩ : ∃ v0 v1 v2 v3 v4 v5 v6 v7, q = [v0, v1, v2, v3, v4, v5, v6, v7] := by
    have := hx.len
    match q, this with
    | [v0, v1, v2, v3, v4, v5, v6, v7], _ => exact ⟨_, _, _, _, _, _, _, _, rfl⟩
  have HG := Lib.hid hga
  clear hla hlw hx hF hsz hok hwg ht hga hbk hcs hsz1 hx1 hF1
  unfold ShowPost
  obtain ⟨T, hT⟩ : ∃ T, txS x = T := ⟨_, rfl⟩
  obtain ⟨r, hr⟩ : ∃ r, rightB true x = r := ⟨_, rfl⟩
  rw [hT] at HT ⊢
  rw [hr] at HT HI ⊢
  clear hT hr
  go_enter Tryz.func10, Tryz.ntmps10
  go_wp2_with fail
  refine HI.out.mono ?_
  rintro e w2 ⟨rfl, hg2⟩
  have HT2 := Lib.hid (fun hr => HT.out hr w2 hg2)
  have HG2 := Lib.hid (gb_trans HG.out hg2)
  clear hg2 HT HI HG
  cases r with
  | false =>
    go_wp2_with fail
    go_ret2
    exact ⟨rfl, HG2.out⟩
  | true =>
    go_wp2_with fail
    refine (HT2.out trivial).mono ?_
    rintro e w3 ⟨rfl, hg3⟩
    have HG3 := Lib.hid (gb_trans HG2.out hg3)
    clear hg3
    go_wp2_with fail
    go_ret2
    exact ⟨rfl, HG3.out⟩

set_option maxRecDepth 100000 in
set_option maxHeartbeats 16000000 in
theorem Body_c (F : Nat → Prop) (x : Sx) (q : List Value) (w : World) (hla : LaidE w) (hlw : LaidW w) (hx : SAt F w x q) (hF : ∀ k, F k → k < w.heap.size) (hsz : sizS x ≤ 1000000) (hok : okS x) (hwg : wgS x ≤ 500000) (ht : (txS x).length ≤ 1000000000) :
    Calls Tryz.prog 11 #[.agg q.toArray] w (ShowPost false x w) := by
  have hga := World.grownBy_alloc w (.cells q.toArray 31) none
  have hbk := heap_alloc_new w (.cells q.toArray 31)
  have hcs : ∀ i v, q[i]? = some v → (w.alloc (.cells q.toArray 31)).cell? ⟨w.heap.size, 0 + i, none⟩ = some v := fun i v hi => by
    rw [Nat.zero_add, cell_of_row _ w.heap.size i _ _ (0, 0) hbk]; simpa using hi
  have hsz1 : (w.alloc (.cells q.toArray 31)).heap.size = w.heap.size + 1 := by simp
  have hx1 := hx.kept hga
  have hF1 : ∀ k, F k → k < (w.alloc (.cells q.toArray 31)).heap.size := fun k hk => by have := hF k hk; omega
  have HI := Lib.hid (isBody_c F ⟨w.heap.size, 0, none⟩ x q _ (hla.kept hga) ⟨_, _, rfl, ⟨by omega, _, _, hbk⟩, hcs⟩ hx1 hsz hok hF1)
  have HT : Hid (rightB false x = true → ∀ w2, (w.alloc (.cells q.toArray 31)).grownBy w2 none → Calls Tryz.prog 26 #[.pointer (some ⟨w.heap.size, 0, none⟩)] w2 (fun e w' => e = .returned (.string ⟨(txS x).toArray⟩) ∧ w2.grownBy w' none)) := Lib.hid (fun hr w2 hg => by
    refine exprText_c F w.heap.size 0 x q w2 (fun j l hj => hg.cell (hga.cell (hlw j l hj) (by simp)) (by simp)) (hx1.kept hg) (fun k hk => Nat.lt_of_lt_of_le (hF1 k hk) hg.size) (Nat.lt_of_lt_of_le (by omega) hg.size) (fun i v hi => hg.cell (hcs i v hi) (by simp)) (right_fit hr hok) hwg ht)
  obtain ⟨v0, v1, v2, v3, v4, v5, v6, v7, rfl⟩ : ∃ v0 v1 v2 v3 v4 v5 v6 v7, q = [v0, v1, v2, v3, v4, v5, v6, v7] := by
    have := hx.len
    match q, this with
    | [v0, v1, v2, v3, v4, v5, v6, v7], _ => exact ⟨_, _, _, _, _, _, _, _, rfl⟩
  have HG := Lib.hid hga
  clear hla hlw hx hF hsz hok hwg ht hga hbk hcs hsz1 hx1 hF1
  unfold ShowPost
  obtain ⟨T, hT⟩ : ∃ T, txS x = T := ⟨_, rfl⟩
  obtain ⟨r, hr⟩ : ∃ r, rightB false x = r := ⟨_, rfl⟩
  rw [hT] at HT ⊢
  rw [hr] at HT HI ⊢
  clear hT hr
  go_enter Tryz.func11, Tryz.ntmps11
  go_wp2_with fail
  refine HI.out.mono ?_
  rintro e w2 ⟨rfl, hg2⟩
  have HT2 := Lib.hid (fun hr => HT.out hr w2 hg2)
  have HG2 := Lib.hid (gb_trans HG.out hg2)
  clear hg2 HT HI HG
  cases r with
  | false =>
    go_wp2_with fail
    go_ret2
    exact ⟨rfl, HG2.out⟩
  | true =>
    go_wp2_with fail
    refine (HT2.out trivial).mono ?_
    rintro e w3 ⟨rfl, hg3⟩
    have HG3 := Lib.hid (gb_trans HG2.out hg3)
    clear hg3
    go_wp2_with fail
    go_ret2
    exact ⟨rfl, HG3.out⟩

theorem cells_flat {s : Nat} {w : World} {g off : Nat} {rows : List (List Value)} (hc : ∀ (j : Nat) (q : List Value), rows[j]? = some q → ∀ (i : Nat) (v : Value), q[i]? = some v → w.cell? ⟨g, off + j * s + i, none⟩ = some v) (hw : ∀ q ∈ rows, q.length = s) (hs : 0 < s) :
    ∀ i v, rows.flatten[i]? = some v → w.cell? ⟨g, off + i, none⟩ = some v := by
  induction rows generalizing off with
  | nil => intro i v h; simp at h
  | cons q l ih =>
    intro i v h
    have hq := hw q List.mem_cons_self
    rw [List.flatten_cons] at h
    by_cases hi : i < s
    · rw [List.getElem?_append_left (by omega)] at h
      have := hc 0 q rfl i v h
      rwa [Nat.zero_mul, Nat.add_zero] at this
    · rw [List.getElem?_append_right (by omega)] at h
      have := ih (off := off + s) (fun j q2 hj i2 v2 hi2 => by
        have := hc (j + 1) q2 (by simpa using hj) i2 v2 hi2
        rwa [show off + (j + 1) * s + i2 = off + s + j * s + i2 by rw [Nat.add_mul]; omega] at this) (fun q2 h2 => hw q2 (List.mem_cons_of_mem _ h2)) (i - q.length) v h
      rwa [show off + s + (i - q.length) = off + i by omega] at this
theorem txs_map (ks : List Sx) : (txSs ks).map (·.2) = ks.map txS := by
  induction ks with
  | nil => rfl
  | cons x l ih => simp only [txSs, List.map_cons, ih]
theorem rtext_c : ∀ (n : Nat) (x : Sx), sizS x ≤ n → ∀ (F : Nat → Prop) (q : List Value) (w : World), RSt F w x q → fitS x → tbS x ≤ 1000000000 → n ≤ 1000000 →
    Calls Tryz.prog 7 #[.agg q.toArray] w (StrX (txS x) w) := by
  intro n
  induction n with
  | zero => intro x hn; have := sizS_pos x; omega
  | succ n ih =>
    intro x hn F q w hx hf hb hnb
    cases x with
    | mk op nm md nu ys ks ps =>
      simp only [RSt] at hx
      obtain ⟨pk, ck, rows, rfl, hg, hls, -⟩ := hx
      simp only [fitS] at hf
      obtain ⟨⟨h1, h2, hcn, hn1, hn2, -⟩, hfs⟩ := hf
      simp only [sizS] at hn
      simp only [tbS] at hb
      have HKT : ∀ (j : Nat) (kx : Sx) (qx : List Value), ks[j]? = some kx → rows[j]? = some qx → KidT w kx qx := fun j kx qx hk hq => by
        obtain ⟨q2, hq2, hx2⟩ := hls.get hk
        rw [hq] at hq2
        have hq2 : qx = q2 := Option.some.inj hq2
        subst hq2
        have s1 := sizSs_mem hk
        have s2 := tbSs_mem hk
        have s3 := tb_len kx
        exact kt_of hx2 (fitSs_mem hfs (List.mem_of_getElem? hk)) (by omega) (fun W hW => ih kx (by omega) F qx W hW (fitSs_mem hfs (List.mem_of_getElem? hk)) (by omega) (by omega))
      have hrl := hls.len
      have hwd := hls.wid
      show Calls Tryz.prog 7 #[.agg #[.int .i64 op, .string ⟨nm.toArray⟩, .string ⟨md.toArray⟩, .string ⟨(Zd.txtL nu).toArray⟩, .bool ys, .slice pk ks.length ck, .int .i64 ps]] w _
      by_cases e1 : op = 1
      · subst e1
        exact rt1 ⟨nm.toArray⟩ ⟨md.toArray⟩ ⟨(Zd.txtL nu).toArray⟩ ys pk ks.length ck ps w
      by_cases e2 : op = 2
      · subst e2
        cases ys
        · exact rt2f _ _ _ pk ks.length ck ps w
        · exact rt2t _ _ _ pk ks.length ck ps w
      by_cases e3 : op = 3
      · subst e3
        exact rt3 ⟨nm.toArray⟩ _ _ ys pk ks.length ck ps w
      by_cases e4 : op = 4
      · subst e4
        exact rt4 _ _ _ ys pk ks.length ck ps w
      by_cases e24 : op = 24
      · have ht := text_call e24 nm md nu ys ks ps
        rw [ht]
        subst e24
        refine rt24 _ _ _ ys pk ks.length ck ps _ w (fun W hW => ?_)
        rw [txs_map]
        refine rcall_c 24 nm md ⟨(Zd.txtL nu).toArray⟩ ys pk ks.length ck ps rows (ks.map txS) W (hg.kept hW) hrl (by simp) (by have h8 := hcn; unfold countB at h8; rw [if_neg (by omega), if_neg (by omega), if_neg (by omega), if_neg (by omega)] at h8; have := of_decide_eq_true h8; omega) hwd (fun j q2 t hq ht2 W2 hW2 => ?_) ?_
        · rw [List.getElem?_map] at ht2
          obtain ⟨kx, hk, rfl⟩ := Option.map_eq_some_iff.1 ht2
          exact (HKT j kx q2 hk hq).2.2.1 W2 (gb_trans hW hW2)
        · have h5 := join_len (txSs ks)
          have h6 := tb_lens ks
          rw [txs_map] at h5
          omega
      have hlen : ks.length = (if op ≤ 6 then 1 else if op = 21 then 3 else 2) := by
        unfold countB at hcn
        rw [if_neg (by omega)] at hcn
        by_cases h6 : op ≤ 6
        · rw [if_pos h6] at hcn ⊢; exact of_decide_eq_true hcn
        rw [if_neg h6] at hcn ⊢
        by_cases h21 : op = 21
        · rw [if_neg (by omega), if_pos h21] at hcn; rw [if_pos h21]; exact of_decide_eq_true hcn
        · rw [if_pos (by omega)] at hcn; rw [if_neg h21]; exact of_decide_eq_true hcn
      obtain ⟨g, off, rfl, hgw, hc⟩ := hg.resolve_left (fun e => by rw [e] at hrl; simp at hrl; rw [← hrl] at hlen; split at hlen <;> (try split at hlen) <;> omega)
      have hcf := cells_flat hc hwd (by omega)
      by_cases h6 : op ≤ 6
      · rw [if_pos h6] at hlen
        obtain ⟨x0, rfl⟩ := one_of hlen
        obtain ⟨q0, rfl⟩ := one_of (hrl.trans hlen)
        obtain ⟨⟨v0, v1, v2, v3, v4, v5, v6, rfl⟩, hl0, -, hk0⟩ := HKT 0 x0 q0 rfl rfl
        have hw9 := fun l => wrap_len x0.op (txS x0) l
        have h56 : op = 5 ∨ op = 6 := by omega
        rcases h56 with rfl | rfl
        · exact rt5 _ _ _ ys g off ck ps v0 v1 v2 v3 v4 v5 v6 (wrapS x0) w hgw (fun i v hi => hcf i v (by simpa using hi)) (fun l W hl hW => hk0 l W hl hW) (by have := hw9 9; unfold wrapS; omega)
        · exact rt6 _ _ _ ys g off ck ps v0 v1 v2 v3 v4 v5 v6 (wrapS x0) w hgw (fun i v hi => hcf i v (by simpa using hi)) (fun l W hl hW => hk0 l W hl hW) (by have := hw9 4; unfold wrapS; omega)
      rw [if_neg h6] at hlen
      by_cases h21 : op = 21
      · rw [if_pos h21] at hlen
        subst h21
        obtain ⟨x0, x1, x2, rfl⟩ := three_of hlen
        obtain ⟨q0, q1, q2, rfl⟩ := three_of (hrl.trans hlen)
        obtain ⟨⟨v0, v1, v2, v3, v4, v5, v6, rfl⟩, hl0, hk0, -⟩ := HKT 0 x0 q0 rfl rfl
        obtain ⟨⟨u0, u1, u2, u3, u4, u5, u6, rfl⟩, hl1, hk1, -⟩ := HKT 1 x1 q1 rfl rfl
        obtain ⟨⟨a0, a1, a2, a3, a4, a5, a6, rfl⟩, hl2, hk2, -⟩ := HKT 2 x2 q2 rfl rfl
        have ht : txS (.mk 21 nm md nu ys [x0, x1, x2] ps) = [105, 102, 32] ++ txS x0 ++ [32, 116, 104, 101, 110, 32] ++ txS x1 ++ [32, 101, 108, 115, 101, 32] ++ txS x2 := by
          show [105, 102, 32] ++ wrapT _ (txS x0) 0 ++ [32, 116, 104, 101, 110, 32] ++ wrapT _ (txS x1) 0 ++ [32, 101, 108, 115, 101, 32] ++ wrapT _ (txS x2) 0 = _
          rw [wrapT0, wrapT0, wrapT0]
        rw [ht]
        exact rt21 _ _ _ ys g off ck ps _ _ _ _ _ _ _ _ _ _ _ _ _ _ _ _ _ _ _ _ _ (txS x0) (txS x1) (txS x2) w hgw (fun i v hi => hcf i v (by simpa using hi)) hk0 (by omega) hk1 (by omega) hk2 (by omega)
      rw [if_neg h21] at hlen
      obtain ⟨x0, x1, rfl⟩ := two_of hlen
      obtain ⟨q0, q1, rfl⟩ := two_of (hrl.trans hlen)
      obtain ⟨⟨v0, v1, v2, v3, v4, v5, v6, rfl⟩, hl0, hk0, hp0⟩ := HKT 0 x0 q0 rfl rfl
      obtain ⟨⟨u0, u1, u2, u3, u4, u5, u6, rfl⟩, hl1, hk1, hp1⟩ := HKT 1 x1 q1 rfl rfl
      by_cases h22 : op = 22
      · subst h22
        have ht : txS (.mk 22 nm md nu ys [x0, x1] ps) = [108, 101, 116, 32] ++ nm ++ [32, 61, 32] ++ txS x0 ++ [32, 105, 110, 32] ++ txS x1 := by
          show [108, 101, 116, 32] ++ nm ++ [32, 61, 32] ++ wrapT _ (txS x0) 0 ++ [32, 105, 110, 32] ++ wrapT _ (txS x1) 0 = _
          rw [wrapT0, wrapT0]
        rw [ht]
        exact rt22 nm _ _ ys g off ck ps _ _ _ _ _ _ _ _ _ _ _ _ _ _ (txS x0) (txS x1) w hn1 hgw (fun i v hi => hcf i v (by simpa using hi)) hk0 (by omega) hk1 (by omega)
      by_cases h23 : op = 23
      · subst h23
        have ht : txS (.mk 23 nm md nu ys [x0, x1] ps) = [97, 115, 115, 101, 114, 116, 32] ++ txS x0 ++ [32, 105, 110, 32] ++ txS x1 := by
          show [97, 115, 115, 101, 114, 116, 32] ++ wrapT _ (txS x0) 0 ++ [32, 105, 110, 32] ++ wrapT _ (txS x1) 0 = _
          rw [wrapT0, wrapT0]
        rw [ht]
        exact rt23 _ _ _ ys g off ck ps _ _ _ _ _ _ _ _ _ _ _ _ _ _ (txS x0) (txS x1) w hgw (fun i v hi => hcf i v (by simpa using hi)) hk0 (by omega) hk1 (by omega)
      rw [text_two (by omega) (by omega)]
      simp only [tbSs] at hb
      have t0 := tb_len x0
      have t1 := tb_len x1
      have hw9 := fun l => wrap_len x0.op (txS x0) l
      have hw8 := fun l => wrap_len x1.op (txS x1) l
      refine rtE op _ _ _ ys _ 2 ck ps _ w (by omega) (by omega) (fun W hW => ?_)
      exact rtwo_c op (by omega) (by omega) _ _ _ ys g off ck ps _ _ _ _ _ _ _ _ _ _ _ _ _ _ (wrapS x0) (wrapS x1) W (Nat.lt_of_lt_of_le hgw hW.size) (fun i v hi => hW.cell (hcf i v (by simpa using hi)) (by simp)) (fun l W2 hl hW2 => hp0 l W2 hl (gb_trans hW hW2)) (fun l W2 hl hW2 => hp1 l W2 hl (gb_trans hW hW2)) (fun l => by have := hw9 l; unfold wrapS; omega) (fun l => by have := hw8 l; unfold wrapS; omega)

def clauseR (a : Option Addr) : List (List Value) := [rowB [32, 123], [.string ⟨#[]⟩, .pointer a, .int .i64 0], rowB [125]]
def clausesR (n : Nat) (a : Option Addr) : List (List Value) := if n = 0 then [] else clauseR a
theorem clausesR_len (n : Nat) (a : Option Addr) : (clausesR n a).length ≤ 3 := by
  unfold clausesR; split <;> simp [clauseR]

set_option maxRecDepth 100000 in
set_option maxHeartbeats 16000000 in
theorem tkid_c9 (S : Nat → Prop) (B b cb : Nat) (rows : List (List Value)) (a : Option Addr) (w : World) (h : WrAt S B b w rows) (hl : rows.length ≤ 900000) (hSc : S cb) (cc : w.cell? ⟨cb, 0, none⟩ = some (.pointer (some ⟨b, 0, none⟩))) :
    Calls Tryz.prog 38 #[.pointer a, .pointer (some ⟨cb, 0, none⟩)] w (PcPost S B b (rows ++ clauseR a) w) := by
  have HPUT := Lib.hid (fun rows s W h h2 => put_c9 S B b rows s W h h2)
  have HEXP := Lib.hid (fun rows a W h h2 => expr_c9 S B b rows a 0 W h h2)
  have hcw : cb < w.heap.size := by obtain ⟨v, -, -, -, -, -, -, hh⟩ := h; exact hh _ hSc
  have HKP : Hid (∀ W, Fr2 (fun k => ¬ S k) w W → W.cell? ⟨cb, 0, none⟩ = some (.pointer (some ⟨b, 0, none⟩)) ∧ cb < W.heap.size) := Lib.hid (fun W hf => ⟨by rw [World.cell?_of_block (w := w) (hf.block cb hcw (fun e => e hSc))]; exact cc, Nat.lt_of_lt_of_le hcw hf.size⟩)
  have HW := Lib.hid h; have HL := Lib.hid hl
  clear h hl hSc
  go_enter Tryz.func38, Tryz.ntmps38
  go_wp2_with fail
  refine (HPUT.out _ _ w HW.out (by have := HL.out; omega)).mono ?_
  rintro e w2 ⟨rfl, hw2, hf2⟩
  have HW2 := Lib.hid hw2; have HF2 := Lib.hid hf2
  obtain ⟨c2, hc2⟩ := HKP.out w2 hf2
  clear hw2 hf2 cc hcw
  go_wp2_with fail
  refine (HEXP.out _ _ w2 HW2.out (by rw [List.length_append]; have := HL.out; simp; omega)).mono ?_
  rintro e w3 ⟨rfl, hw3, hf3⟩
  have HW3 := Lib.hid hw3; have HF3 := Lib.hid (HF2.out.trans hf3)
  obtain ⟨c3, hc3⟩ := HKP.out w3 HF3.out
  clear hw3 hf3 c2 hc2
  go_wp2_with fail
  refine (HPUT.out _ _ w3 HW3.out (by rw [List.length_append, List.length_append]; have := HL.out; simp; omega)).mono ?_
  rintro e w4 ⟨rfl, hw4, hf4⟩
  have HW4 : Hid (WrAt S B b w4 (rows ++ clauseR a)) := Lib.hid (by
    simp only [List.append_assoc, List.cons_append, List.nil_append] at hw4
    exact hw4)
  have HF4 := Lib.hid (HF3.out.trans hf4)
  clear hw4 hf4 c3 hc3
  go_wp2_with fail
  go_end0
  exact ⟨rfl, HW4.out, HF4.out⟩

set_option maxRecDepth 100000 in
set_option maxHeartbeats 16000000 in
theorem tone_c9 (S : Nat → Prop) (B b cb : Nat) (rows : List (List Value)) (gk ok ck : Nat) (s : ByteArray) (w : World) (h : WrAt S B b w rows) (hl : rows.length ≤ 900000) (hSc : S cb) (cc : w.cell? ⟨cb, 0, none⟩ = some (.pointer (some ⟨b, 0, none⟩))) :
    Calls Tryz.prog 37 #[.pointer (some ⟨b, 0, none⟩), .slice (some ⟨gk, ok, none⟩) 1 ck, .string s, .func (.func 38) #[] #[.pointer (some ⟨cb, 0, none⟩)]] w (PcPost S B b (rows ++ clauseR (some ⟨gk, ok, none⟩)) w) := by
  have HKID := Lib.hid (fun a => tkid_c9 S B b cb rows a w h hl hSc cc)
  have HW := Lib.hid h
  clear h hl cc hSc
  go_enter Tryz.func37, Tryz.ntmps37
  go_wp2_with fail
  go_loopw [11] (fun iv wr => (iv = .int .i64 0 ∧ wr = w) ∨ (iv = .int .i64 1 ∧ Hid (WrAt S B b wr (rows ++ clauseR (some ⟨gk, ok, none⟩))) ∧ Hid (Fr2 (fun k => ¬ S k) w wr))) (fun iv _ => 1 - (intOf iv).toNat)
  case atStart => exact .inl ⟨rfl, rfl⟩
  case round =>
    rcases hrel with ⟨rfl, rfl⟩ | ⟨rfl, HWR, HF⟩
    · go_wp2_with fail
      refine (HKID.out _).mono ?_
      rintro e w3 ⟨rfl, hw3, hf3⟩
      have HF3 := Lib.hid hf3
      have HW3 := Lib.hid hw3
      clear hw3 hf3
      go_wp2_with fail
      go_roundw
      case rel => exact .inr ⟨by go_num, HW3, HF3⟩
      case measure => (simp [intOf] <;> omega)
    · go_wp2_with fail
      go_end0
      exact ⟨rfl, HWR.out, HF.out⟩

set_option maxRecDepth 100000 in
set_option maxHeartbeats 16000000 in
theorem baseKey_c (base : Int) (w : World) : Calls Tryz.prog 36 #[.int .i64 base] w (fun e w' => e = .returned (.string ⟨(baseT base).toArray⟩) ∧ w' = w) := by
  unfold baseT
  by_cases h : base = 1
  · subst h
    rw [if_pos rfl]
    go_enter Tryz.func36, Tryz.ntmps36
    go_wp2_with fail
    go_ret
    exact ⟨rfl, rfl⟩
  · rw [if_neg h]
    have h2 : (base == 1) = false := by simpa using h
    go_enter Tryz.func36, Tryz.ntmps36
    go_wp2_with fail
    go_ret
    exact ⟨rfl, rfl⟩

set_option maxRecDepth 100000 in
set_option maxHeartbeats 16000000 in
theorem typed_c9 (S : Nat → Prop) (B b : Nat) (rows : List (List Value)) (base : Int) (gk ok n ck : Nat) (pk : Option Addr) (w : World) (h : WrAt S B b w rows) (hl : rows.length ≤ 800000) (hn : n ≤ 1) (hpk : 0 < n → pk = some ⟨gk, ok, none⟩) :
    Calls Tryz.prog 21 #[.pointer (some ⟨b, 0, none⟩), .int .i64 base, .slice pk n ck] w (PcPost S B b (rows ++ rowB (baseT base) :: clausesR n (some ⟨gk, ok, none⟩)) w) := by
  obtain ⟨cb, hcb⟩ : ∃ cb, w.heap.size = cb := ⟨_, rfl⟩
  have hg := World.grownBy_alloc w (.cells #[.pointer (some ⟨b, 0, none⟩)] 82) none
  have hA := heap_alloc_new w (.cells #[.pointer (some ⟨b, 0, none⟩)] 82)
  have hsz : (w.alloc (.cells #[.pointer (some ⟨b, 0, none⟩)] 82)).heap.size = cb + 1 := by simp [hcb]
  rw [hcb] at hA
  have hW := h.more hg (Nat.le_of_eq hcb) (by rw [hsz]; omega)
  go_enter Tryz.func21, Tryz.ntmps21
  go_upto_region 1 with fail
  try rw [hcb]
  generalize (w.alloc (.cells #[.pointer (some ⟨b, 0, none⟩)] 82)) = W at *
  have q0 : W.cell? ⟨cb, 0, none⟩ = some (.pointer (some ⟨b, 0, none⟩)) := by rw [cell_of_row W cb 0 _ _ (0, 0) hA]; rfl
  have hcw : cb < W.heap.size := by omega
  obtain ⟨S2, hS2⟩ : ∃ S2 : Nat → Prop, S2 = fun k => S k ∨ k = cb := ⟨_, rfl⟩
  have hSc : S2 cb := by rw [hS2]; exact .inr rfl
  have HEND : Hid (∀ rows' w', WrAt S2 B b w' rows' → Fr2 (fun k => ¬ S2 k) W w' → PcPost S B b rows' w (.returned (.tuple #[])) w') := Lib.hid (fun rows' w' h1 h2 => by
    rw [hS2] at h1 h2
    exact ⟨rfl, h1.less, (Fr2.none hg).trans (h2.mono (fun k hk e => hk (.inl e)))⟩)
  rw [← hS2] at hW
  have HKP : Hid (∀ W', Fr2 (fun k => ¬ S2 k) W W' → W'.cell? ⟨cb, 0, none⟩ = some (.pointer (some ⟨b, 0, none⟩)) ∧ cb < W'.heap.size) := Lib.hid (fun W' hf =>
    ⟨by rw [World.cell?_of_block (w := W) (hf.block cb hcw (fun e => e hSc))]; exact q0, Nat.lt_of_lt_of_le hcw hf.size⟩)
  have HPUT := Lib.hid (fun rows s W h h2 => put_c9 S2 B b rows s W h h2)
  have HKEY := Lib.hid (fun W => baseKey_c base W)
  have HLIST : Hid (∀ (R : List (List Value)) (W' : World), WrAt S2 B b W' R → R.length ≤ 900000 → W'.cell? ⟨cb, 0, none⟩ = some (.pointer (some ⟨b, 0, none⟩)) → Calls Tryz.prog 37 #[.pointer (some ⟨b, 0, none⟩), .slice pk n ck, .string ⟨#[]⟩, .func (.func 38) #[] #[.pointer (some ⟨cb, 0, none⟩)]] W' (PcPost S2 B b (R ++ clausesR n (some ⟨gk, ok, none⟩)) W')) := Lib.hid (fun R W' h1 h2 h3 => by
    rcases Nat.eq_zero_or_pos n with h0 | h0
    · subst h0
      have := list_nil9 S2 B b R ⟨#[]⟩ pk ck (.func (.func 38) #[] #[.pointer (some ⟨cb, 0, none⟩)]) W' h1
      simpa [clausesR] using this
    · have h1n : n = 1 := by omega
      subst h1n
      rw [hpk h0]
      exact tone_c9 S2 B b cb R gk ok ck ⟨#[]⟩ W' h1 h2 hSc h3)
  have HW0 := Lib.hid hW; have HL := Lib.hid hl
  obtain ⟨T, hT⟩ : ∃ T, baseT base = T := ⟨_, rfl⟩
  rw [hT] at HKEY
  have HTT := Lib.hid hT
  clear hS2 hSc hW h hl hA hsz hg hpk hn hT
  go_wp2_with fail
  go_region_held3 (fun w' => w'.cell? ⟨cb, 0, none⟩ = some (.pointer (some ⟨b, 0, none⟩)))
    (first | with_reducible exact q0 | go_keep)
    (first
      | (go_at_call 36; refine (HKEY.out _).mono ?_; rintro e wk ⟨rfl, rfl⟩)
      | (go_at_call 35; refine (HPUT.out _ _ _ (HW0.out.kept (by repeat (first | with_reducible exact gb_refl _ _ | with_reducible refine gb_drew ?_ | with_reducible refine gb_drewN ?_ _ | with_reducible refine gb_alloc ?_ _))) (by have := HL.out; omega)).mono ?_; rintro e w2 ⟨rfl, hw2, hf2⟩; have HW2 := Lib.hid hw2; have HF2 := Lib.hid ((Fr2.none (show W.grownBy _ none from (by repeat (first | with_reducible exact gb_refl _ _ | with_reducible refine gb_drew ?_ | with_reducible refine gb_drewN ?_ _ | with_reducible refine gb_alloc ?_ _)))).trans hf2); obtain ⟨q0, hcw⟩ := HKP.out _ HF2.out; clear hw2 hf2)
      | fail)
  all_goals
    go_wp2_with fail
    refine (HLIST.out _ _ HW2.out (by rw [List.length_append]; have := HL.out; simp; omega) q0).mono ?_
    rintro e w4 ⟨rfl, hw4, hf4⟩
    have HW4 : Hid (WrAt S2 B b w4 (rows ++ rowB T :: clausesR n (some ⟨gk, ok, none⟩))) := Lib.hid (by
      simp only [List.append_assoc, List.cons_append, List.nil_append] at hw4
      exact hw4)
    have HF4 := Lib.hid (HF2.out.trans hf4)
    clear hw4 hf4 q0 hcw
    go_wp2_with fail
    go_end0
    have hend := HEND.out _ _ HW4.out HF4.out
    rw [← HTT.out] at hend
    exact hend

/-- What is asked of a base and its clauses so far, of so many. -/
def okI (base : Int) (n : Nat) (xs : List Sx) : Bool := (decide (base = 1) || decide (base = 2)) && decide (n ≤ 1) && xs.all (rightB true)
def rT (base : Int) (l : List Sx) : Bool := okI base l.length l
theorem row_at {F : Nat → Prop} {x : Sx} {l : List Sx} {pk : Option Addr} {rows : List (List Value)} {w : World} (hG : GAt 8 w pk rows) (hls : LsS F w (x :: l) rows) (hfl : ∀ a, pk = some a → Flat w a.block) : ∃ g o q, pk = some ⟨g, o, none⟩ ∧ CAt w ⟨g, o, none⟩ q ∧ SAt F w x q := by
  obtain ⟨q, hq, hx⟩ := hls.get (j := 0) (x := x) rfl
  obtain ⟨g, o, rfl, hc⟩ := hG.at hq hfl
  exact ⟨g, o, q, rfl, by simpa using hc, hx⟩

set_option maxRecDepth 100000 in
set_option maxHeartbeats 16000000 in
theorem rightTyped_c (F : Nat → Prop) (base : Int) (l : List Sx) (pk : Option Addr) (ck : Nat) (rows : List (List Value)) (w : World) (hla : LaidE w) (hG : GAt 8 w pk rows) (hls : LsS F w l rows) (hfl : l ≠ [] → ∀ a, pk = some a → Flat w a.block) (hok : ∀ x ∈ l, okS x) (hsz : ∀ x ∈ l, sizS x ≤ 1000000) (hF : ∀ k, F k → k < w.heap.size) :
    Calls Tryz.prog 20 #[.int .i64 base, .slice pk l.length ck] w (TruePost (rT base l) w) := by
  by_cases hb : base = 1 ∨ base = 2
  · match l, hls, hfl, hok, hsz with
    | [], _, _, _, _ =>
      have hr : rT base [] = true := by rcases hb with rfl | rfl <;> rfl
      rw [hr]
      clear hla hG hF hr
      rcases hb with rfl | rfl <;>
      · go_enter Tryz.func20, Tryz.ntmps20
        go_wp2_with fail
        go_ret
        exact ⟨rfl, gb_refl _ _⟩
    | [x], hls, hfl, hok, hsz =>
      have hr : rT base [x] = rightB true x := by rcases hb with rfl | rfl <;> simp [rT, okI]
      rw [hr]
      obtain ⟨g, o, q, rfl, hc, hx⟩ := row_at hG hls (hfl (by simp))
      have HI := Lib.hid (isFormula_c F ⟨g, o, none⟩ x q w hla hc hx (hsz x (by simp)) (hok x (by simp)) hF)
      generalize rightB true x = r at *
      clear hla hG hF hr hls hfl hok hsz hc hx
      rcases hb with rfl | rfl <;>
      · go_enter Tryz.func20, Tryz.ntmps20
        go_wp2_with fail
        refine HI.out.mono ?_
        rintro e w2 ⟨rfl, hg⟩
        have HG := Lib.hid hg
        clear hg
        go_wp2_with fail
        go_ret
        exact ⟨rfl, HG.out⟩
    | x :: y :: l, _, _, _, _ =>
      have hr : rT base (x :: y :: l) = false := by simp [rT, okI]
      rw [hr]
      obtain ⟨m, hm⟩ : ∃ m, (x :: y :: l).length = m := ⟨_, rfl⟩
      have hm2 : 2 ≤ m := by rw [← hm]; simp
      rw [hm]
      clear hla hG hF hr hm
      have y1 : decide ((1 : Int) < (m : Int)) = true := decide_eq_true (by omega)
      have y2 : decide (1 < m) = true := decide_eq_true (by omega)
      rcases hb with rfl | rfl <;>
      · go_enter Tryz.func20, Tryz.ntmps20
        go_wp2_with fail
        go_ret
        exact ⟨rfl, gb_refl _ _⟩
  · have hr : rT base l = false := by
      have h1 : ¬ base = 1 := fun e => hb (.inl e)
      have h2 : ¬ base = 2 := fun e => hb (.inr e)
      simp [rT, okI, h1, h2]
    rw [hr]
    obtain ⟨m, hm⟩ : ∃ m, l.length = m := ⟨_, rfl⟩
    rw [hm]
    have h1 : (base != 1) = true := by simp; exact fun e => hb (.inl e)
    have h2 : (base != 2) = true := by simp; exact fun e => hb (.inr e)
    clear hla hG hF hr hls hfl hok hsz hm hb
    go_enter Tryz.func20, Tryz.ntmps20
    go_wp2_with fail
    go_ret
    exact ⟨rfl, gb_refl _ _⟩

/-- What is told of a base and its clauses: the text, or an error. -/
def TyPost (base : Int) (l : List Sx) (w : World) (e : Ending) (w' : World) : Prop := e = .returned (.tuple #[.string ⟨(if rT base l then tydT base l else []).toArray⟩, .int .i64 (if rT base l then 0 else 10)]) ∧ w.grownBy w' none
theorem rT_one {base : Int} {l : List Sx} (h : rT base l = true) : l = [] ∨ ∃ x, l = [x] ∧ rightB true x = true := by
  unfold rT okI at h
  match l with
  | [] => exact .inl rfl
  | [x] => refine .inr ⟨x, rfl, ?_⟩; simp at h; exact h.2
  | x :: y :: l => simp at h
/-- The pieces of a base and its clause, in memory. -/
theorem typed_pc {F : Nat → Prop} {base : Int} {l : List Sx} {pk : Option Addr} {rows : List (List Value)} {w : World} (hr : rT base l = true) (hG : GAt 8 w pk rows) (hls : LsS F w l rows) (hfl : l ≠ [] → ∀ a, pk = some a → Flat w a.block) :
    l.length ≤ 1 ∧ ∃ g o, (0 < l.length → pk = some ⟨g, o, none⟩ ∧ g < w.heap.size) ∧ PcsAt (fun k => F k ∨ (0 < l.length ∧ k = g)) w (tydP base l) (rowB (baseT base) :: clausesR l.length (some ⟨g, o, none⟩)) := by
  rcases rT_one hr with rfl | ⟨x, rfl, -⟩
  · exact ⟨by simp, 0, 0, fun h => absurd h (by simp), _, _, rfl, rfl, rfl⟩
  · obtain ⟨g, o, q, rfl, ⟨g', o', e, ⟨hl, -⟩, hc⟩, hx⟩ := row_at hG hls (hfl (by simp))
    injection e with e1 e2 _
    subst e1; subst e2
    refine ⟨by simp, g, o, fun _ => ⟨rfl, hl⟩, _, _, rfl, rfl, _, _, rfl, rfl, _, _, rfl, ⟨g, o, q, rfl, .inr ⟨by simp, rfl⟩, hl, hx.mono (fun k hk => .inl hk), hc⟩, _, _, rfl, rfl, rfl⟩
theorem typed_fit {base : Int} {l : List Sx} (hr : rT base l = true) (hok : ∀ x ∈ l, okS x) : ∀ p ∈ tydP base l, fitP p := by
  have hf : ∀ x ∈ l, fitS x := by
    rcases rT_one hr with rfl | ⟨x, rfl, h⟩
    · intro x hx; cases hx
    · intro y hy; simp at hy; subst hy; exact right_fit h (hok _ (by simp))
  intro p hp
  simp only [tydP, List.mem_cons] at hp
  rcases hp with rfl | hp
  · trivial
  · exact clauses_fit hf p hp
theorem typed_sizes {base : Int} {l : List Sx} (hr : rT base l = true) (hwg : ∀ x ∈ l, wgS x ≤ 400000) (ht : ∀ x ∈ l, (txS x).length ≤ 900000000) : wgPs (tydP base l) ≤ 500000 ∧ (tydT base l).length ≤ 1000000000 := by
  have h1 := typed_wg base l
  have hb : (baseT base).length ≤ 4 := by unfold baseT; split <;> simp
  rcases rT_one hr with rfl | ⟨x, rfl, h⟩
  · simp [wgSs, tydT] at h1 ⊢; omega
  · have h2 := hwg x (by simp)
    have h3 := ht x (by simp)
    simp [wgSs, tydT, clsT] at h1 ⊢; omega

set_option maxRecDepth 100000 in
set_option maxHeartbeats 16000000 in
theorem Typed_c (F : Nat → Prop) (base : Int) (l : List Sx) (pk : Option Addr) (ck : Nat) (rows : List (List Value)) (w : World) (hla : LaidE w) (hlw : LaidW w) (hG : GAt 8 w pk rows) (hls : LsS F w l rows) (hfl : l ≠ [] → ∀ a, pk = some a → Flat w a.block) (hok : ∀ x ∈ l, okS x) (hsz : ∀ x ∈ l, sizS x ≤ 1000000) (hF : ∀ k, F k → k < w.heap.size) (hwg : ∀ x ∈ l, wgS x ≤ 400000) (ht : ∀ x ∈ l, (txS x).length ≤ 900000000) :
    Calls Tryz.prog 8 #[.int .i64 base, .slice pk l.length ck] w (TyPost base l w) := by
  have HR := Lib.hid (rightTyped_c F base l pk ck rows w hla hG hls hfl hok hsz hF)
  have HT : Hid (rT base l = true → ∀ w1, w.grownBy w1 none → Calls Tryz.prog 21 #[.pointer (some ⟨w1.heap.size, 0, none⟩), .int .i64 base, .slice pk l.length ck] (w1.alloc (.cells #[.slice none 0 0] 58)) (fun e w2 => e = .returned (.tuple #[]) ∧ Fr2 (fun k => ¬ k < w1.heap.size) w1 w2 ∧ Calls Tryz.prog 22 #[.pointer (some ⟨w1.heap.size, 0, none⟩)] w2 (fun e w' => e = .returned (.string ⟨(tydT base l).toArray⟩) ∧ Fr2 (fun k => ¬ k < w1.heap.size) w2 w'))) := Lib.hid (fun hr w1 hg1 => by
    have hs1 := hg1.size
    obtain ⟨h1, g, o, hpk, hpc⟩ := typed_pc hr (hG.kept hg1) (hls.kept hg1) (fun h a ha => Flat.same (S := fun _ => False) (hfl h a ha) (Fr2.none hg1) (fun e => e))
    have hga := World.grownBy_alloc w1 (.cells #[.slice none 0 0] 58) none
    have hW : WrAt (fun k => k < w1.heap.size) (w1.heap.size + 1) w1.heap.size (w1.alloc (.cells #[.slice none 0 0] 58)) [] :=
      ⟨.slice none 0 0, heap_alloc_new w1 _, OwnG.nil _ _ _ _, by omega, by simp, by omega, fun k hk => by simp [Value.ownBlock] at hk, fun k hk => by simp; omega⟩
    refine (typed_c9 _ _ _ [] base g o l.length ck pk _ hW (by simp) h1 (fun h => (hpk h).1)).mono ?_
    rintro e w2 ⟨rfl, hw2, hf2⟩
    have hf : Fr2 (fun k => ¬ k < w1.heap.size) w1 w2 := (Fr2.none hga).trans hf2
    refine ⟨rfl, hf, ?_⟩
    have hlw1 : LaidW w1 := fun j t hj => hg1.cell (hlw j t hj) (by simp)
    obtain ⟨hz1, hz2⟩ := typed_sizes hr hwg ht
    have hFF : ∀ k, (F k ∨ (0 < l.length ∧ k = g)) → k < w1.heap.size := fun k hk => by
      rcases hk with hk | ⟨h0, rfl⟩
      · exact Nat.lt_of_lt_of_le (hF k hk) hs1
      · exact (hpk h0).2
    have := text_c9 (fun k => k < w1.heap.size) _ (w1.heap.size + 1) w1.heap.size _ (tydP base l) w2 hw2 (hpc.same hf (fun k hk e => e (hFF k hk))) (by simp) hz1 (by have := clausesR_len l.length (some ⟨g, o, none⟩); simp; omega) hFF hlw1.lt (hlw1.same hf hlw1.lt hlw1.lt) (typed_fit hr hok) (by rw [typed_text]; exact hz2)
    rw [typed_text] at this
    exact this)
  clear hla hlw hG hls hfl hok hsz hF hwg ht
  unfold TyPost
  obtain ⟨T, hT⟩ : ∃ T, tydT base l = T := ⟨_, rfl⟩
  obtain ⟨r, hr⟩ : ∃ r, rT base l = r := ⟨_, rfl⟩
  obtain ⟨n, hn⟩ : ∃ n, l.length = n := ⟨_, rfl⟩
  rw [hT, hr, hn] at HT
  rw [hr, hn] at HR
  rw [hT, hr, hn]
  clear hT hr hn
  go_enter Tryz.func8, Tryz.ntmps8
  go_wp2_with fail
  refine HR.out.mono ?_
  rintro e w1 ⟨rfl, hg1⟩
  have HG1 := Lib.hid hg1
  clear hg1 HR
  cases r with
  | false =>
    go_wp2_with fail
    go_ret2
    exact ⟨rfl, HG1.out⟩
  | true =>
    have HT1 := Lib.hid (HT.out rfl w1 HG1.out)
    clear HT
    go_wp2_with fail
    refine HT1.out.mono ?_
    rintro e w2 ⟨rfl, hf2, htx⟩
    have HF2 := Lib.hid hf2; have HTX := Lib.hid htx
    clear hf2 htx HT1
    go_wp2_with fail
    refine HTX.out.mono ?_
    rintro e w3 ⟨rfl, hf3⟩
    have HG3 := Lib.hid (gb_trans HG1.out (fr_gb (HF2.out.trans hf3) (fun k hk => by omega)))
    clear hf3
    go_wp2_with fail
    go_ret2
    exact ⟨rfl, HG3.out⟩
end Go.Proofs.YtijpelkjeejjfaaGreatDoor
