/- The document's Expr, of any node that the parser makes of an expression. -/
import Derived.Test.YtdilncefhfbgeaaGreatDoorARX7
import Derived.Test.YtdilncefhfbgeaaGreatDoorARX8
import Derived.Test.YtdilncefhfbgeaaGreatDoorARX10
import Derived.Test.YtdilncefhfbgeaaGreatDoorARX11
import Derived.Test.YtdilncefhfbgeaaGreatDoorARX12
import Derived.Test.YtdilncefhfbgeaaGreatDoorARX13
import Derived.Test.YtdilncefhfbgeaaGreatDoorARX14
import Derived.Test.YtdilncefhfbgeaaGreatDoorM37
import Derived.Deep.RegionHeld3
import Derived.Test.YtdilncefhfbgeaaGreatDoorM39
import Derived.Test.YtdilncefhfbgeaaGreatDoorM38
set_option linter.unusedVariables false
set_option linter.unusedSimpArgs false
namespace Go.Proofs.YtdilncefhfbgeaaGreatDoor
open Go.RowKit

theorem rexpr_c (T : List Tok) (N : List Nd) (K : Nat → Option Addr × Nat) (pt pn : Option Addr) (ct cn : Nat) (hT : T.length ≤ 40000) (hN : N.length ≤ 150000) : ∀ m, m ≤ 150000 → RIH T N K pt pn ct cn m := by
  intro m
  induction m with
  | zero => intro _ t k w h; have := szR_pos t; omega
  | succ m ih =>
    intro hm t k w hsz hgd ht hw
    have ih := ih (by omega)
    obtain ⟨nd', we', ko', lv', pl'⟩ := hgd
    cases t with
    | lf i => simp [isN] at nd'
    | nd kd l =>
      obtain ⟨n, ks, hn, hx, hkt⟩ := pl'.nd
      have hn : k = n := by omega
      subst hn
      simp only [WE] at we'
      simp only [kOk] at ko'
      simp only [lvT] at lv'
      simp only [szR] at hsz
      obtain ⟨hs, hwe⟩ := we'
      have hko := ko'.2.2
      have hll : l.length ≤ 150000 := by have := len_szRs l; omega
      have hsm : szRs l ≤ m := by omega
      have key : kd = 7 ∨ (kd = 8 ∨ kd = 9) ∨ kd = 10 ∨ kd = 11 ∨ kd = 12 ∨ kd = 13 ∨ (kd = 14 ∨ kd = 15 ∨ kd = 16 ∨ kd = 17) := by cases hs <;> simp
      rcases key with h | h | h | h | h | h | h
      · exact rexpr_7 T N K pt pn ct cn m ih hT hN k ks kd l hx hkt hsm hll hko lv' hwe hs h w ht hw
      · exact rexpr_8 T N K pt pn ct cn m ih hT hN k ks kd l hx hkt hsm hll hko lv' hwe hs h w ht hw
      · exact rexpr_10 T N K pt pn ct cn m ih hT hN k ks kd l hx hkt hsm hll hko lv' hwe hs h w ht hw
      · exact rexpr_11 T N K pt pn ct cn m ih hT hN k ks kd l hx hkt hsm hll hko lv' hwe hs h w ht hw
      · exact rexpr_12 T N K pt pn ct cn m ih hT hN k ks kd l hx hkt hsm hll hko lv' hwe hs h w ht hw
      · exact rexpr_13 T N K pt pn ct cn m ih hT hN k ks kd l hx hkt hsm hll hko lv' hwe hs h w ht hw
      · exact rexpr_14 T N K pt pn ct cn m ih hT hN k ks kd l hx hkt hsm hll hko lv' hwe hs h w ht hw

theorem toks_of {w : World} {p : Option Addr} {T : List Tok} (h : TAt w p T) : ToksAt w p (T.map toI) := by
  rcases h with h | ⟨g, off, rfl, hl, hc⟩
  · subst h; exact .inl rfl
  · refine .inr ⟨g, off, rfl, hl, fun j q hj i v hi => ?_⟩
    unfold toksV at hj
    rw [List.getElem?_map, List.getElem?_map] at hj
    cases ht : T[j]? with
    | none => rw [ht] at hj; cases hj
    | some t =>
      rw [ht] at hj
      injection hj with hj
      subst hj
      obtain ⟨h0, h1, h2, h3⟩ := hc j t ht
      match i, hi with
      | 0, hi => injection hi with hi; subst hi; exact h0
      | 1, hi => injection hi with hi; subst hi; exact h1
      | 2, hi => injection hi with hi; subst hi; exact h2
      | 3, hi => injection hi with hi; subst hi; exact h3
      | k + 4, hi => simp [tokVI, toI] at hi
end Go.Proofs.YtdilncefhfbgeaaGreatDoor
namespace Go.Proofs.YtdilncefhfbgeaaGreatDoor
open Go.RowKit

set_option maxRecDepth 100000 in
set_option maxHeartbeats 16000000 in
theorem rats_c : ∀ (n : Nat) (x : Ex), sizE x ≤ n → ∀ (F : Nat → Prop) (q : List Value) (w : World), RAt F w x q → (atsE x).length ≤ 1000000 →
    Calls Tryz.prog 25 #[.agg q.toArray] w (IntsPost (atsE x) w) := by
  intro n
  induction n with
  | zero => intro x hn; cases x; simp [sizE] at hn
  | succ n ih =>
    intro x hn F q w hx hl
    cases x with
    | mk op nm md nu ys ks ps =>
      simp only [RAt] at hx
      obtain ⟨pk, ck, rows, rfl, hg, hls, -⟩ := hx
      unfold strV
      generalize (⟨nm.toArray⟩ : ByteArray) = y at *
      generalize (⟨md.toArray⟩ : ByteArray) = z at *
      generalize (⟨nu.toArray⟩ : ByteArray) = u at *
      obtain ⟨kl, hkl⟩ : ∃ kl, ks.length = kl := ⟨_, rfl⟩
      have HKL := Lib.hid hkl
      have HG := Lib.hid hg; have HLS := Lib.hid hls; have HN := Lib.hid hn; have HL := Lib.hid hl; have IH := Lib.hid ih
      have hkb : kl ≤ 1000000 := by
        have h1 := len_sizK ks
        rw [← atsK_len] at h1
        simp only [atsE, List.length_cons] at hl
        omega
      obtain ⟨AT, hAT⟩ : ∃ AT, atsE (Ex.mk op nm md nu ys ks ps) = AT := ⟨_, rfl⟩
      have HAT := Lib.hid hAT
      rw [hkl, hAT]
      clear hg hls hn hl ih hkl hAT
      go_enter Tryz.func25, Tryz.ntmps25
      go_wp2_with fail
      have hgA := World.grownBy_alloc w (.cells #[.int .i64 (op : Int), .string y, .string z, .string u, .bool ys, .slice pk kl ck, .int .i64 (ps : Int)] 68) none
      have hsA : (w.alloc (.cells #[.int .i64 (op : Int), .string y, .string z, .string u, .bool ys, .slice pk kl ck, .int .i64 (ps : Int)] 68)).heap.size = w.heap.size + 1 := by simp
      have hA := heap_alloc_new w (.cells #[.int .i64 (op : Int), .string y, .string z, .string u, .bool ys, .slice pk kl ck, .int .i64 (ps : Int)] 68)
      generalize (w.alloc (.cells #[.int .i64 (op : Int), .string y, .string z, .string u, .bool ys, .slice pk kl ck, .int .i64 (ps : Int)] 68)) = WA at *
      have hO := OwnL.new WA (w.heap.size + 1) (ps : Int) (w.heap.size + 1) hsA (Nat.le_refl _)
      have hgB := World.grownBy_alloc WA (.cells #[.int .i64 (ps : Int)] 3) none
      generalize (WA.alloc (.cells #[.int .i64 (ps : Int)] 3)) = WB at *
      obtain ⟨b, hb⟩ : ∃ b, w.heap.size = b := ⟨_, rfl⟩
      rw [hb] at hsA hO hA ⊢
      have HAA := Lib.hid hA
      have HSA := Lib.hid hsA; have HGA := Lib.hid hgA; have HGB := Lib.hid hgB
      have HO0 : Hid (OwnG 1 3 WB (b + 1) (.slice (some ⟨b + 1, 0, none⟩) 1 1) (one (intsV ((ps : Int) :: atsK (ks.take 0))))) := Lib.hid (by rw [List.take_zero, atsK_nil]; exact hO)
      clear hgA hsA hO hgB hb hA
      go_loopw [3, 4] (fun v i wr => ∃ k : Nat, k ≤ kl ∧ i = .int .i64 k ∧ Hid (OwnG 1 3 wr (b + 1) v (one (intsV ((ps : Int) :: atsK (ks.take k))))) ∧ Hid (WA.grownBy wr none)) (fun _ i _ => kl - (intOf i).toNat)
      case atStart => exact ⟨0, Nat.zero_le _, rfl, HO0, HGB⟩
      case round =>
        clear HO0
        obtain ⟨k, hk, rfl, HO, HGR⟩ := hrel
        have e5 : wr.cell? ⟨b, 5, none⟩ = some (.slice pk kl ck) := by rw [cell_of_row wr b 5 _ _ (0, 0) (bx HGR.out HAA.out)]; rfl
        have hbw : b < wr.heap.size := hlt' (bx HGR.out HAA.out)
        have HGW : Hid (w.grownBy wr none) := Lib.hid (gb_trans HGA.out HGR.out)
        by_cases hlt : k < kl
        · have d3 : decide ((k : Int) < (kl : Int)) = true := decide_eq_true (by omega)
          have d3' : decide (k < kl) = true := decide_eq_true hlt
          obtain ⟨x, hx⟩ : ∃ x, ks[k]? = some x := ⟨ks[k]'(by rw [HKL.out]; exact hlt), List.getElem?_eq_getElem _⟩
          obtain ⟨qx, hqx, hEx⟩ := Lr_get HLS.out hx
          have HNX := Lib.hid (atsK_next hx)
          have HSX : Hid (sizE x ≤ n) := Lib.hid (by have := sizK_get hx; have := HN.out; simp only [sizE] at this; omega)
          have HEX := Lib.hid (hEx.kept HGW.out)
          obtain ⟨g, off, rfl, hgl, hc⟩ := HG.out.resolve_left (fun e => by rw [e] at hqx; simp at hqx)
          have HLX : Hid ((atsE x).length ≤ 1000000 ∧ (one (intsV ((ps : Int) :: atsK (ks.take k)))).length ≤ 1000000) := Lib.hid (by
            have h1 := HL.out
            have h2 := atsK_len_take ks (k + 1)
            rw [HNX.out, List.length_append] at h2
            simp only [atsE, List.length_cons] at h1
            rw [one_len, intsV_len, List.length_cons]; omega)
          have HIH := Lib.hid (fun W h => IH.out x HSX.out (fun k => F k) qx W h HLX.out.1)
          cases x with
          | mk op' nm' md' nu' ys' ks' ps' =>
            simp only [RAt] at hEx
            obtain ⟨pk', ck', rows', rfl, -⟩ := hEx
            unfold strV at *
            generalize (⟨nm'.toArray⟩ : ByteArray) = y' at *
            generalize (⟨md'.toArray⟩ : ByteArray) = z' at *
            generalize (⟨nu'.toArray⟩ : ByteArray) = u' at *
            generalize hkl' : ks'.length = kl' at *
            have hc := fun i v h => HGW.out.cell (hc k _ hqx i v h) (by simp)
            have c0 := hc 0 _ rfl
            have c1 := hc 1 _ rfl
            have c2 := hc 2 _ rfl
            have c3 := hc 3 _ rfl
            have c4 := hc 4 _ rfl
            have c5 := hc 5 _ rfl
            have c6 := hc 6 _ rfl
            rw [Nat.add_zero] at c0
            have hgl := Nat.lt_of_lt_of_le hgl HGW.out.size
            obtain ⟨ax, hax⟩ : ∃ ax, atsE (Ex.mk op' nm' md' nu' ys' ks' ps') = ax := ⟨_, rfl⟩
            rw [hax] at HLX HNX HIH
            clear hx hqx hc hkl' hax
            go_wp2_with fail
            refine (HIH.out _ HEX.out).mono ?_
            rintro e w7 ⟨hg7, p7, cap7, rfl, hv7⟩
            have HG7 : Hid (wr.grownBy w7 none) := Lib.hid hg7
            have HV7 := Lib.hid hv7
            have HO7 : Hid (OwnG 1 3 w7 (b + 1) u3 (one (intsV ((ps : Int) :: atsK (ks.take k))))) := Lib.hid (HO.out.kept HG7.out)
            have HS7 : Hid (b + 1 ≤ w7.heap.size) := Lib.hid (by have := HG7.out.size; have := HGR.out.size; have := HSA.out; omega)
            clear hg7 hv7 HIH c0 c1 c2 c3 c4 c5 c6 hgl HO
            go_wp2_with (at_builtin; go_loud (refine wpList_appGs (s := 1) (t := 52) (T := 3) (by decide) Tryz.underlying52 infoI rfl (by omega) rfl _ _ rfl (b + 1) (one (intsV ((ps : Int) :: atsK (ks.take k)))) (one (intsV ax)) (one_wid (intsV_one _)) u3 rfl HO7.out p7 ax.length cap7 rfl (by rw [one_len, intsV_len]) (g_of_v HV7.out) HLX.out.2 HLX.out.1 HS7.out ?_))
            intro p9 n9 cap9 w9 hn9 hO9 hB9 _
            have HO2 : Hid (OwnG 1 3 w9 (b + 1) (.slice p9 n9 cap9) (one (intsV ((ps : Int) :: atsK (ks.take (k + 1)))))) := Lib.hid (by rw [HNX.out, ← List.cons_append, intsV_append, one_append]; exact hO9)
            have HG2 : Hid (WA.grownBy w9 none) := Lib.hid (below_gb (Below.trans2 (gb_below (gb_trans HGR.out HG7.out)) (by rw [HSA.out]; exact hB9)))
            clear hO9 hB9 HG7 HV7 HS7 hn9 HO7
            go_wp2_with fail
            go_roundw
            case rel => exact ⟨k + 1, by omega, by go_num, HO2, HG2⟩
            case measure => (simp [intOf] <;> omega)
        · obtain rfl : k = kl := by omega
          have hat : (ps : Int) :: atsK (ks.take k) = AT := by
            rw [← HAT.out, List.take_of_length_le (by rw [HKL.out]; exact Nat.le_refl _)]; simp only [atsE]
          obtain ⟨p9, c9, e9, hv9, -⟩ := HO.out.is
          rw [one_len, intsV_len, hat] at e9
          rw [hat] at hv9
          subst e9
          have HV9 := Lib.hid (v_of_g hv9)
          clear hv9 hat HO
          go_wp2_with fail
          go_ret
          exact ⟨HGW.out, _, _, rfl, HV9.out⟩
end Go.Proofs.YtdilncefhfbgeaaGreatDoor
namespace Go.Proofs.YtdilncefhfbgeaaGreatDoor
open Go.RowKit

/-- Where the document's expression lies: in a box of its own. -/
def ExBox (W : World) (x : Ex) (t7 : Value) (wx : World) : Prop := ∃ b7 q7, t7 = .pointer (some ⟨b7, 0, none⟩) ∧ wx.heap[b7]? = some (.cells q7.toArray 68 (0, 0)) ∧ RAt (fun _ => True) wx x q7 ∧ W.grownBy wx none
theorem ex_new {W w2 : World} {x : Ex} {a b c d e f g : Value} {F : Nat → Prop} (h : W.grownBy w2 none) (hq : RAt F w2 x [a, b, c, d, e, f, g]) : ExBox W x (.pointer (some ⟨w2.heap.size, 0, none⟩)) (w2.alloc (.cells #[a, b, c, d, e, f, g] 68)) :=
  ⟨w2.heap.size, _, rfl, heap_alloc_new w2 _, (RAt.kept hq (World.grownBy_alloc _ _ none)).mono (fun _ _ => trivial), gb_alloc h _⟩
theorem ex_old {W w2 : World} {x : Ex} {b0 : Nat} {a b c d e f g : Value} {x0 x1 x2 x3 x4 x5 x6 : Value} {F : Nat → Prop} (h : W.grownBy w2 none) (hb : W.heap.size ≤ b0) (hB : w2.heap[b0]? = some (.cells #[x0, x1, x2, x3, x4, x5, x6] 68 (0, 0))) (hq : RAt F w2 x [a, b, c, d, e, f, g]) (hF : ∀ k, F k → k ≠ b0) :
    ExBox W x (.pointer (some ⟨b0, 0, none⟩)) (((((((w2.setCell ⟨b0, 0, none⟩ a).setCell ⟨b0, 1, none⟩ b).setCell ⟨b0, 2, none⟩ c).setCell ⟨b0, 3, none⟩ d).setCell ⟨b0, 4, none⟩ e).setCell ⟨b0, 5, none⟩ f).setCell ⟨b0, 6, none⟩ g) :=
  ⟨b0, _, rfl, (put7c hB a b c d e f g).1, (RAt.same (put7c hB a b c d e f g).2 (fun k hk e => hF k hk e) hq).mono (fun _ _ => trivial), Fr2.after h (put7c hB a b c d e f g).2 (fun j hj => by have e : j = b0 := hj; omega)⟩

set_option maxRecDepth 100000 in
set_option maxHeartbeats 16000000 in
theorem formulas8_c (s : ByteArray) (w : World) (hla : LaidE w) (hls : LaidS w) : Calls Tryz.prog 4 #[.string s] w (ValPost (.bool true) w) := by
  have HAN := Lib.hid (anchor8_c w hla hls)
  have HLA := Lib.hid hla; have HLS := Lib.hid hls
  by_cases hbig : 1500 < s.size
  · have d1 : decide (1500 < s.size) = true := decide_eq_true hbig
    have d1' : decide ((1500 : Int) < (s.size : Int)) = true := decide_eq_true (by omega)
    clear hbig hla hls
    go_enter Tryz.func4, Tryz.ntmps4
    go_wp2_with fail
    refine HAN.out.mono ?_
    rintro e w0 ⟨rfl, hg0⟩
    have HG0 := Lib.hid hg0
    clear hg0
    go_wp2_with fail
    go_ret
    exact ⟨rfl, HG0.out⟩
  · have d1 : decide (1500 < s.size) = false := decide_eq_false hbig
    have d1' : decide ((1500 : Int) < (s.size : Int)) = false := decide_eq_false (by omega)
    have hsl := list_len s
    have HP := Lib.hid (fun W h => Formula_p s 100 W (by omega) h)
    by_cases hne : (ansQ s.data.toList 100 true).2.1 ≠ 0
    · have HFB := Lib.hid (fun W h => FormulaOf_bad W h)
      have HNE := Lib.hid hne
      clear hbig hla hls hne
      go_enter Tryz.func4, Tryz.ntmps4
      go_wp2_with fail
      refine HAN.out.mono ?_
      rintro e w0 ⟨rfl, hg0⟩
      have HG0 := Lib.hid hg0
      clear hg0 HAN
      go_wp2_with fail
      refine (HP.out _ (HLA.out.kept HG0.out)).mono ?_
      rintro e w1 ⟨hg1, he⟩
      have HG1 := Lib.hid (gb_trans HG0.out hg1)
      clear hg1 HP
      rw [if_pos HNE.out] at he
      subst he
      unfold badV
      obtain ⟨E, hE⟩ : ∃ E, (ansQ s.data.toList 100 true).2.1 = E := ⟨_, rfl⟩
      obtain ⟨P, hP⟩ : ∃ P, (ansQ s.data.toList 100 true).2.2 = P := ⟨_, rfl⟩
      have hne := HNE.out
      rw [hE] at hne
      rw [hE, hP]
      have f1 : ((E : Int) != 0) = true := bne_iff_ne.2 (by omega)
      have f1' : (E != 0) = true := bne_iff_ne.2 hne
      clear hE hP hne HNE
      go_wp2_with fail
      obtain ⟨W, b0, b1, hW, e0, e1, hB0, hB1, hgW, h01⟩ := two w1 (.cells #[.slice none 0 0, .slice none 0 0] 26) (.cells #[.int .i64 (E : Int), .int .i64 (P : Int)] 29)
      have HB1 := Lib.hid hB1; have HGW := Lib.hid (gb_trans HG1.out hgW)
      clear hB0 hB1 hgW
      try rw [← hW]
      try rw [e1]
      try rw [e0]
      clear e0 e1 hW
      refine (HFB.out _ (HLA.out.kept HGW.out)).mono ?_
      rintro e w2 ⟨rfl, hg2⟩
      have HG2 := Lib.hid (gb_trans HGW.out hg2)
      obtain ⟨c0, c1, c2⟩ := cells2 (bx hg2 HB1.out)
      have hb1 : b1 < w2.heap.size := hlt (bx hg2 HB1.out)
      clear hg2 HFB
      go_wp2_with fail
      go_ret
      exact ⟨rfl, gb_alloc HG2.out _⟩
    · have hok : (ansQ s.data.toList 100 true).2.1 = 0 := by omega
      have hR := read_f (l := s.data.toList) (by omega) hok
      have HFO := Lib.hid (fun pt pn ct cn K W h1 h2 h3 h4 h5 => FormulaOf_c s 100 (by omega) hok pt pn ct cn K W h1 h2 h3 h4 h5)
      have HLM := Lib.hid (fun h => lim_form (l := s.data.toList) (D := 100) (by omega) hR h)
      obtain ⟨t, ks, k0, hx, hk0, hgd, hax, hsz⟩ := form_root hR
      have HLN := Lib.hid (len_all hR.lex)
      have HOK := Lib.hid hok
      obtain ⟨l, hl⟩ : ∃ l, s.data.toList = l := ⟨_, rfl⟩
      rw [hl] at HP HFO HLM HLN HOK hsl hx hgd hax hsz
      have HX := Lib.hid hx; have HK0 := Lib.hid hk0; have HGD := Lib.hid hgd; have HAX := Lib.hid hax; have HSZ := Lib.hid hsz
      have HSL : Hid (l.length ≤ 1500) := Lib.hid (by omega)
      clear hbig hla hls hne hok hR hl hsl hx hk0 hgd hax hsz
      go_enter Tryz.func4, Tryz.ntmps4
      go_wp2_with fail
      refine HAN.out.mono ?_
      rintro e w0 ⟨rfl, hg0⟩
      have HG0 := Lib.hid hg0
      clear hg0 HAN
      go_wp2_with fail
      refine (HP.out _ (HLA.out.kept HG0.out)).mono ?_
      rintro e w1 ⟨hg1, he⟩
      have HG1 := Lib.hid (gb_trans HG0.out hg1)
      rw [if_neg (by rw [HOK.out]; decide)] at he
      obtain ⟨pt, ct, pn, cn, K, rfl, hta, hct, hna, -, -, -, hN⟩ := he
      have hLE := HLM.out hN
      have HTA := Lib.hid hta; have HNA := Lib.hid hna
      have HFO := Lib.hid (fun W h1 h2 h3 h4 => HFO.out pt pn ct cn K W h1 h2 h3 h4 hN)
      have hm3 : (allE l).1.length ≤ 3000 ∧ (nodesQ l 100 true).length ≤ 6000 := by have h1 := HLN.out; have h2 := HSL.out; omega
      obtain ⟨T, hT⟩ : ∃ T, (allE l).1 = T := ⟨_, rfl⟩
      obtain ⟨N, hNN⟩ : ∃ N, nodesQ l 100 true = N := ⟨_, rfl⟩
      rw [hT, hNN] at HFO ⊢
      rw [hT] at HTA HAX HGD hm3
      rw [hNN] at HNA HX HGD HSZ hm3
      obtain ⟨x, hxx⟩ : ∃ x, formE l 100 = x := ⟨_, rfl⟩
      rw [hxx] at HFO HAX hLE
      have HRX := Lib.hid (fun (pt' pn' : Option Addr) (ct' cn' : Nat) (K' : Nat → Option Addr × Nat) W h1 h2 => rexpr_c T N K' pt' pn' ct' cn' (by omega) (by omega) N.length (by omega) t k0 W HSZ.out HGD.out h1 h2)
      rw [HAX.out] at HRX
      have HMT := Lib.hid (fun W h1 h2 => MTree_c (T.map toI) N K pt pn ct cn W (by rw [List.length_map]; omega) (by omega) h1 h2)
      simp only [List.length_map] at HMT
      have HRT := Lib.hid (fun W => Root_c pt pn T.length ct N.length cn (by have := (List.getElem?_eq_some_iff.1 HX.out).1; omega) (by omega) W)
      have hRN : N.length - 1 < N.length := (List.getElem?_eq_some_iff.1 HX.out).1
      have hkp : 0 < ks.length := (List.getElem?_eq_some_iff.1 HK0.out).1
      have HTP : Hid (∀ w e w', TreePost (T.map toI) N K w e w' → w.grownBy w' none ∧ ∃ p c p' c', e = .returned (.agg #[.slice p T.length c, .slice p' N.length c']) ∧ ToksAt w' p (T.map toI) ∧ NodesAt w' p' N K) := Lib.hid (fun w e w' h => by unfold TreePost at h; rw [List.length_map] at h; exact h)
      clear hta hna hxx hNN hT HAX HGD
      obtain ⟨m, hm⟩ : ∃ m, T.length = m := ⟨_, rfl⟩
      obtain ⟨M, hM⟩ : ∃ M, N.length = M := ⟨_, rfl⟩
      obtain ⟨L, hL⟩ : ∃ L, ks.length = L := ⟨_, rfl⟩
      obtain ⟨R, hRR⟩ : ∃ R, N.length - 1 = R := ⟨_, rfl⟩
      rw [hm, hM] at HFO HMT HTP ⊢
      rw [hRR] at HRT HX hRN
      rw [hm, hM] at HRT
      rw [hm, hM] at HRX
      rw [hM] at hRN
      rw [hL] at hkp
      have HL := Lib.hid hL
      have HLE := Lib.hid hLE
      have hm3 : m ≤ 3000 ∧ M ≤ 6000 := by rw [← hm, ← hM]; exact hm3
      clear hm hM hN hct hg1 HLM hLE HP HG0 HLN HOK HSL hL hRR
      have i1 : (0 : Int) ≤ (R : Int) := by omega
      have i2 : (R : Int) < (M : Int) := by omega
      have i3 : decide (R < M) = true := decide_eq_true hRN
      have i4 : decide ((R : Int) < (M : Int)) = true := decide_eq_true i2
      have j2 : (0 : Int) < (L : Int) := by omega
      have j3 : decide (0 < L) = true := decide_eq_true hkp
      have j4 : decide ((0 : Int) < (L : Int)) = true := decide_eq_true j2
      go_wp2_with fail
      obtain ⟨W, b0, b1, hW, e0, e1, hB0, hB1, hgW, h01⟩ := two w1 (.cells #[.slice pt m ct, .slice pn M cn] 26) (.cells #[.int .i64 0, .int .i64 0] 29)
      have HB0 := Lib.hid hB0; have HB1 := Lib.hid hB1; have HGW := Lib.hid hgW
      try rw [← hW]
      try rw [e1]
      try rw [e0]
      clear e0 e1 hW hB0 hB1 hgW
      refine (HFO.out _ (HLA.out.kept (gb_trans HG1.out HGW.out)) (HLS.out.kept (gb_trans HG1.out HGW.out)) (HTA.out.kept HGW.out) (HNA.out.kept HGW.out)).mono ?_
      rintro e w2 ⟨hg2, q, rfl, hq⟩
      have HG2 := Lib.hid (gb_trans HG1.out (gb_trans HGW.out hg2))
      have HB02 := Lib.hid (bx hg2 HB0.out); have HB12 := Lib.hid (bx hg2 HB1.out)
      have HTA := Lib.hid (HTA.out.kept (gb_trans HGW.out hg2)); have HNA := Lib.hid (HNA.out.kept (gb_trans HGW.out hg2))
      obtain ⟨op, ps, sa, sb, bs, by8, pw, pk, nw, cw, nk, ck, rfl⟩ := hq.form
      have HQ := Lib.hid hq
      obtain ⟨c0, c1, c2⟩ := cells2 HB12.out
      obtain ⟨a0, a1, a2⟩ := cells2 HB02.out
      have hb0 : b0 < w2.heap.size := hlt HB02.out
      have hb1 : b1 < w2.heap.size := hlt HB12.out
      clear hg2 hq HFO HLA HLS HB0 HB1 HGW HG1
      go_wp2_with fail
      obtain ⟨W3, b5, hW3, e5, hB5, hgW3, hs5⟩ := one0 w2 (.cells #[.int .i64 op, .string sa, .string sb, .bool bs, .slice pw nw cw, .bool by8, .slice pk nk ck, .int .i64 ps] 60)
      have HB0 := Lib.hid (bx hgW3 HB02.out); have HB5 := Lib.hid hB5
      have HG3 := Lib.hid (gb_trans HG2.out hgW3)
      have HQ := Lib.hid (HQ.out.kept hgW3)
      have HT := Lib.hid (toks_of (HTA.out.kept hgW3)); have HW := Lib.hid (HNA.out.kept hgW3)
      have hb5 : b0 < b5 := by rw [← e5]; exact hb0
      try rw [← hW3]
      try rw [e5]
      clear hW3 e5 hB5 hgW3 hs5 a0 a1 a2 c0 c1 c2 hb0 hb1 HB02 HB12 HTA HNA
      obtain ⟨g, off, rfl, hgl, -, -, nc⟩ := node_at HW.out HX.out
      obtain ⟨g1, off1, hpk, hgl1, kc⟩ := kid_at (HW.out.2 R _ HX.out) HK0.out
      rw [hpk] at nc
      simp only at nc
      rw [HL.out] at nc
      rw [Nat.add_zero] at kc
      generalize (K R).2 = kcap at nc
      obtain ⟨a0, a1, a2⟩ := cells2 HB0.out
      have hb0 : b0 < W3.heap.size := hlt HB0.out
      have HBS : Hid (b5 < W3.heap.size) := Lib.hid (hlt HB5.out)
      clear hpk
      go_cut [7] (fun t7 wx => Hid (ExBox W3 x t7 wx))
      case first =>
        go_region_held3 (fun w' => w'.cell? ⟨b0, 0, none⟩ = some (.slice pt m ct) ∧ w'.cell? ⟨b0, 1, none⟩ = some (.slice (some ⟨g, off, none⟩) M cn) ∧ w'.cell? ⟨g, off + R * 3 + 2, none⟩ = some (.slice (some ⟨g1, off1, none⟩) L kcap) ∧ w'.cell? ⟨g1, off1, none⟩ = some (.int .i64 (k0 : Int)))
          (first | with_reducible exact ⟨a0, a1, nc, kc⟩ | with_reducible exact ⟨keep7 a0 (by omega), keep7 a1 (by omega), keep7 nc (by omega), keep7 kc (by omega)⟩ | go_keep)
          (first
            | (go_at_call 17; refine (HMT.out _ (HT.out.kept (by repeat (first | with_reducible exact gb_refl _ _ | with_reducible refine gb_drew ?_ | with_reducible refine gb_alloc ?_ _))) (HW.out.kept (by repeat (first | with_reducible exact gb_refl _ _ | with_reducible refine gb_drew ?_ | with_reducible refine gb_alloc ?_ _)))).mono ?_; intro e w4 hte; obtain ⟨hg4, p4, q4, p5, q5, rfl, ht4, hn4⟩ := HTP.out _ _ _ hte; (try (have he4 := bx hg4 (heap_alloc_new W3 (.cells #[.int .i64 0, .string ⟨#[]⟩, .string ⟨#[]⟩, .string ⟨#[]⟩, .bool false, .slice none 0 0, .int .i64 0] 68)))); have HG4 := Lib.hid (gb_trans (show W3.grownBy _ none from (by repeat (first | with_reducible exact gb_refl _ _ | with_reducible refine gb_drew ?_ | with_reducible refine gb_alloc ?_ _))) hg4); have s4 : W3.heap.size ≤ w4.heap.size := HG4.out.size; have HT4 := Lib.hid ht4; have HW4 := Lib.hid hn4; have a0 := HG4.out.cell a0 (by simp); have a1 := HG4.out.cell a1 (by simp); have nc := HG4.out.cell nc (by simp); have kc := HG4.out.cell kc (by simp); clear hg4 hte ht4 hn4)
            | (go_at_call 29; refine (HRT.out _).mono ?_; rintro e w5 ⟨rfl, hg5⟩; (try (have he5 := bx hg5 he4)); (try (have he5 := bx hg5 (heap_alloc_new w4 (.cells #[.int .i64 0, .string ⟨#[]⟩, .string ⟨#[]⟩, .string ⟨#[]⟩, .bool false, .slice none 0 0, .int .i64 0] 68)))); have HG5 := Lib.hid (gb_trans (show w4.grownBy _ none from (by repeat (first | with_reducible exact gb_refl _ _ | with_reducible refine gb_drew ?_ | with_reducible refine gb_alloc ?_ _))) hg5); have s5 : w4.heap.size ≤ w5.heap.size := HG5.out.size; have a0 := HG5.out.cell a0 (by simp); have a1 := HG5.out.cell a1 (by simp); have nc := HG5.out.cell nc (by simp); have kc := HG5.out.cell kc (by simp); clear hg5)
            | (go_at_call 28; refine (HRX.out _ _ _ _ _ _ (HT4.out.kept (gb_trans HG5.out (by repeat (first | with_reducible exact gb_refl _ _ | with_reducible refine gb_drew ?_ | with_reducible refine gb_alloc ?_ _)))) (HW4.out.kept (gb_trans HG5.out (by repeat (first | with_reducible exact gb_refl _ _ | with_reducible refine gb_drew ?_ | with_reducible refine gb_alloc ?_ _))))).mono ?_; rintro e w6 ⟨hg6, q7, rfl, hq⟩; obtain ⟨o0, s1, s2, s3, u4, pp5, l5, k5, o6, rfl⟩ := hq.form; (try (have he6 := bx hg6 he5)); (try (have he6 := bx hg6 (heap_alloc_new w5 (.cells #[.int .i64 0, .string ⟨#[]⟩, .string ⟨#[]⟩, .string ⟨#[]⟩, .bool false, .slice none 0 0, .int .i64 0] 68)))); (try (have hc6 := cells7c he6; obtain ⟨r0, r1, r2, r3, r4, r5, r6, r7⟩ := hc6)); have HG6 := Lib.hid (gb_trans (show w5.grownBy _ none from (by repeat (first | with_reducible exact gb_refl _ _ | with_reducible refine gb_drew ?_ | with_reducible refine gb_alloc ?_ _))) hg6); have s6 : w5.heap.size ≤ w6.heap.size := HG6.out.size; have HQ7 := Lib.hid hq; have a0 := HG6.out.cell a0 (by simp); have a1 := HG6.out.cell a1 (by simp); have nc := HG6.out.cell nc (by simp); have kc := HG6.out.cell kc (by simp); clear hg6 hq))
        all_goals
          go_wp2_with fail
          go_meet
          have hgg := gb_trans HG4.out (gb_trans HG5.out HG6.out)
          first
            | (with_reducible refine Lib.hid (ex_new hgg HQ7.out))
            | (with_reducible refine Lib.hid (ex_old (b0 := W3.heap.size) hgg (Nat.le_refl _) he6 HQ7.out (fun k hk => ?_))
               have hk : w5.heap.size ≤ k := hk
               have h9 := hlt he5
               omega)
            | (with_reducible refine Lib.hid (ex_old (b0 := w4.heap.size) hgg s4 he6 HQ7.out (fun k hk => ?_))
               have hk : w5.heap.size ≤ k := hk
               have h9 := hlt he5
               omega)
            | (with_reducible refine Lib.hid (ex_old (b0 := w5.heap.size) hgg (Nat.le_trans s4 s5) he6 HQ7.out (fun k hk => ?_))
               have hk : (w5.alloc (.cells #[.int .i64 0, .string ⟨#[]⟩, .string ⟨#[]⟩, .string ⟨#[]⟩, .bool false, .slice none 0 0, .int .i64 0] 68)).heap.size ≤ k := hk
               simp at hk
               omega)
      case rest =>
        obtain ⟨b7, q7, rfl, hb7, hq7, hg7⟩ := hcut.out
        obtain ⟨o0, s1, s2, s3, u4, p5, l5, k5, o6, rfl⟩ := hq7.form
        have hqe := HQ.out.kept hg7
        have HDU := Lib.hid (fun W (h : wc.grownBy W none) => Dump_c2 _ x _ W (hqe.kept h) HLE.out.small HLE.out.cnt HLE.out.dump)
        have HRD := Lib.hid (fun W (h : wc.grownBy W none) => rdump_c (sizE x) x (Nat.le_refl _) _ _ W (hq7.kept h) HLE.out.small HLE.out.dump)
        have hlen : (atsE x).length ≤ 1000000 := by rw [atsE_len]; exact HLE.out.size
        have HLT := Lib.hid (fun W (h : wc.grownBy W none) => lats_c (sizE x) x (Nat.le_refl _) _ _ W (hqe.kept h) hlen)
        have HRA := Lib.hid (fun W (h : wc.grownBy W none) => rats_c (sizE x) x (Nat.le_refl _) _ _ W (hq7.kept h) hlen)
        have HSI := Lib.hid (fun W (h : wc.grownBy W none) => Size_c _ x _ W (hqe.kept h) HLE.out.cnt HLE.out.size)
        have HSM := Lib.hid (fun (p1 p2 : Option Addr) (c1 c2 : Nat) W h1 h2 => RSame_c p1 p2 c1 c2 (atsE x) (atsE x) W hlen h1 h2)
        rw [decide_eq_true rfl] at HSM
        have HSZ : Hid (sizE x = (atsE x).length) := Lib.hid (atsE_len x).symm
        rw [HSZ.out] at HSI
        obtain ⟨na, hna⟩ : ∃ na, (atsE x).length = na := ⟨_, rfl⟩
        have HIP : Hid (∀ w e w', IntsPost (atsE x) w e w' → w.grownBy w' none ∧ ∃ p c, e = .returned (.slice p na c) ∧ VAt w' p (intsV (atsE x))) := Lib.hid (fun w e w' h => by rw [← hna]; exact h)
        rw [hna] at HSM HSI
        have HBE := Lib.hid (bx hg7 HB5.out); have HBR := Lib.hid hb7
        have HGF := Lib.hid (gb_trans HG3.out hg7)
        have HGX : Hid (wc.grownBy wc.drew none) := Lib.hid (gb_drew (gb_refl _ _))
        clear hcut hb7 hq7 hg7 hqe hlen hna a0 a1 a2 nc kc
        obtain ⟨c0, c1, c2, c3, c4, c5, c6, c7, c8⟩ := cells8x (bx HGX.out HBE.out)
        obtain ⟨f0, f1, f2, f3, f4, f5, f6, f7⟩ := cells7c (bx HGX.out HBR.out)
        go_wp2_with fail
        go_region_held3 (fun w' => w'.cell? ⟨b5, 0, none⟩ = some (.int .i64 op) ∧ w'.cell? ⟨b5, 1, none⟩ = some (.string sa) ∧ w'.cell? ⟨b5, 2, none⟩ = some (.string sb) ∧ w'.cell? ⟨b5, 3, none⟩ = some (.bool bs) ∧ w'.cell? ⟨b5, 4, none⟩ = some (.slice pw nw cw) ∧ w'.cell? ⟨b5, 5, none⟩ = some (.bool by8) ∧ w'.cell? ⟨b5, 6, none⟩ = some (.slice pk nk ck) ∧ w'.cell? ⟨b5, 7, none⟩ = some (.int .i64 ps) ∧ w'.cell? ⟨b7, 0, none⟩ = some (.int .i64 o0) ∧ w'.cell? ⟨b7, 1, none⟩ = some (.string s1) ∧ w'.cell? ⟨b7, 2, none⟩ = some (.string s2) ∧ w'.cell? ⟨b7, 3, none⟩ = some (.string s3) ∧ w'.cell? ⟨b7, 4, none⟩ = some (.bool u4) ∧ w'.cell? ⟨b7, 5, none⟩ = some (.slice p5 l5 k5) ∧ w'.cell? ⟨b7, 6, none⟩ = some (.int .i64 o6))
          (first | with_reducible exact ⟨c0, c1, c2, c3, c4, c5, c6, c7, f0, f1, f2, f3, f4, f5, f6⟩ | go_keep)
          (first
            | (go_at_call 30; refine (HDU.out _ (gb_trans HGX.out (by repeat (first | with_reducible exact gb_refl _ _ | with_reducible refine gb_drew ?_ | with_reducible refine gb_alloc ?_ _)))).mono ?_; rintro e w9 ⟨⟨y1, rfl, hy1⟩, hg9⟩; have HGX := Lib.hid (gb_trans (gb_trans HGX.out (by repeat (first | with_reducible exact gb_refl _ _ | with_reducible refine gb_drew ?_ | with_reducible refine gb_alloc ?_ _))) hg9); have HY1 := Lib.hid hy1; obtain ⟨c0, c1, c2, c3, c4, c5, c6, c7, c8⟩ := cells8x (bx HGX.out HBE.out); obtain ⟨f0, f1, f2, f3, f4, f5, f6, f7⟩ := cells7c (bx HGX.out HBR.out); clear hg9 hy1)
            | (go_at_call 31; refine (HRD.out _ (gb_trans HGX.out (by repeat (first | with_reducible exact gb_refl _ _ | with_reducible refine gb_drew ?_ | with_reducible refine gb_alloc ?_ _)))).mono ?_; rintro e w9 ⟨⟨y2, rfl, hy2⟩, hg9⟩; have HGX := Lib.hid (gb_trans (gb_trans HGX.out (by repeat (first | with_reducible exact gb_refl _ _ | with_reducible refine gb_drew ?_ | with_reducible refine gb_alloc ?_ _))) hg9); have hyy : y2 = y1 := ByteArray.ext (Array.toList_inj.1 (hy2.trans HY1.out.symm)); subst hyy; obtain ⟨c0, c1, c2, c3, c4, c5, c6, c7, c8⟩ := cells8x (bx HGX.out HBE.out); obtain ⟨f0, f1, f2, f3, f4, f5, f6, f7⟩ := cells7c (bx HGX.out HBR.out); clear hg9 hy2)
            | (go_at_call 24; refine (HLT.out _ (gb_trans HGX.out (by repeat (first | with_reducible exact gb_refl _ _ | with_reducible refine gb_drew ?_ | with_reducible refine gb_alloc ?_ _)))).mono ?_; intro e w9 hip; obtain ⟨hg9, pa, ca, rfl, hva⟩ := HIP.out _ _ _ hip; have HGX := Lib.hid (gb_trans (gb_trans HGX.out (by repeat (first | with_reducible exact gb_refl _ _ | with_reducible refine gb_drew ?_ | with_reducible refine gb_alloc ?_ _))) hg9); have HVA := Lib.hid hva; obtain ⟨c0, c1, c2, c3, c4, c5, c6, c7, c8⟩ := cells8x (bx HGX.out HBE.out); obtain ⟨f0, f1, f2, f3, f4, f5, f6, f7⟩ := cells7c (bx HGX.out HBR.out); clear hg9 hva hip)
            | (go_at_call 25; refine (HRA.out _ (gb_trans HGX.out (by repeat (first | with_reducible exact gb_refl _ _ | with_reducible refine gb_drew ?_ | with_reducible refine gb_alloc ?_ _)))).mono ?_; intro e w9 hip; obtain ⟨hg9, pb, cb, rfl, hvb⟩ := HIP.out _ _ _ hip; (try (have HVC := Lib.hid (HVA.out.kept (gb_trans (by repeat (first | with_reducible exact gb_refl _ _ | with_reducible refine gb_drew ?_ | with_reducible refine gb_alloc ?_ _)) hg9)); clear HVA)); have HGX := Lib.hid (gb_trans (gb_trans HGX.out (by repeat (first | with_reducible exact gb_refl _ _ | with_reducible refine gb_drew ?_ | with_reducible refine gb_alloc ?_ _))) hg9); have HVB := Lib.hid hvb; obtain ⟨c0, c1, c2, c3, c4, c5, c6, c7, c8⟩ := cells8x (bx HGX.out HBE.out); obtain ⟨f0, f1, f2, f3, f4, f5, f6, f7⟩ := cells7c (bx HGX.out HBR.out); clear hg9 hvb hip)
            | (go_at_call 21; refine (HSM.out _ _ _ _ _ (HVC.out.kept (by repeat (first | with_reducible exact gb_refl _ _ | with_reducible refine gb_drew ?_ | with_reducible refine gb_alloc ?_ _))) (HVB.out.kept (by repeat (first | with_reducible exact gb_refl _ _ | with_reducible refine gb_drew ?_ | with_reducible refine gb_alloc ?_ _)))).mono ?_; rintro e w9 ⟨rfl, hg9⟩; have HGX := Lib.hid (gb_trans (gb_trans HGX.out (by repeat (first | with_reducible exact gb_refl _ _ | with_reducible refine gb_drew ?_ | with_reducible refine gb_alloc ?_ _))) hg9); obtain ⟨c0, c1, c2, c3, c4, c5, c6, c7, c8⟩ := cells8x (bx HGX.out HBE.out); obtain ⟨f0, f1, f2, f3, f4, f5, f6, f7⟩ := cells7c (bx HGX.out HBR.out); clear hg9 HVC HVB)
            | (go_at_call 32; refine (HSI.out _ (gb_trans HGX.out (by repeat (first | with_reducible exact gb_refl _ _ | with_reducible refine gb_drew ?_ | with_reducible refine gb_alloc ?_ _)))).mono ?_; rintro e w9 ⟨rfl, hg9⟩; have HGX := Lib.hid (gb_trans (gb_trans HGX.out (by repeat (first | with_reducible exact gb_refl _ _ | with_reducible refine gb_drew ?_ | with_reducible refine gb_alloc ?_ _))) hg9); obtain ⟨c0, c1, c2, c3, c4, c5, c6, c7, c8⟩ := cells8x (bx HGX.out HBE.out); obtain ⟨f0, f1, f2, f3, f4, f5, f6, f7⟩ := cells7c (bx HGX.out HBR.out); clear hg9))
        all_goals
          go_wp2_with fail
          go_ret
          exact ⟨rfl, gb_trans HGF.out HGX.out⟩
end Go.Proofs.YtdilncefhfbgeaaGreatDoor
