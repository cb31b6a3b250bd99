/- A node's dump. -/
import Derived.Test.YtmlcpihedmmlfaaGreatDoorM12
set_option linter.unusedVariables false
set_option linter.unusedSimpArgs false
namespace Go.Proofs.YtmlcpihedmmlfaaGreatDoor
open Go.RowKit

theorem OwnL.okept {w w' : World} {base b : Nat} {v : Value} {l : List Int} (h : OwnL w base v l) (hg : OKept b w w') (hb : v.ownBlock ≠ some b) : OwnL w' base v l :=
  ⟨⟨h.1.1, h.1.2.imp id fun ⟨g, cap, cur, e, hh, hb1, r⟩ => ⟨g, cap, cur, e, hh, hg g cur _ hb1 (by decide) (fun e2 => hb (by rw [e, e2]; rfl)), r⟩⟩, h.2⟩

theorem bld_keptF {S : Nat → Prop} {B b : Nat} {bs : List Value} {w w' : World} (h : Lib.IsBuilder 101 5 B b bs w) (hf : Fr2 S w w') (hS : ∀ k, S k → k ≠ b ∧ ∃ cs T, w.heap[k]? = some (.cells cs T (0, 0)) ∧ T ≠ 5) : Lib.IsBuilder 101 5 B b bs w' := by
  have one : ∀ p, Lib.BuilderAt 101 5 B b p bs w → Lib.BuilderAt 101 5 B b p bs w' := by
    intro p ⟨hB, v, hb, hown, hn⟩
    refine ⟨hB, v, hf.keep hb (fun hs => (hS b hs).1 rfl), ⟨hown.1, hown.2.imp id fun ⟨g, cap, cur, e, hh, hb1, r⟩ => ⟨g, cap, cur, e, hh, hf.keep hb1 (fun hs => ?_), r⟩⟩, hn⟩
    obtain ⟨-, cs, T, h1, h2⟩ := hS g hs
    have h5 := Lib.ownBlock_ne hown h1 h2
    exact h5 (by rw [e]; rfl)
  exact h.imp (one _) (one _)

theorem OwnL.block {w : World} {base : Nat} {v : Value} {l : List Int} (h : OwnL w base v l) : ∀ k, v.ownBlock = some k → ∃ cs, w.heap[k]? = some (.cells cs 3 (0, 0)) := fun k e => by
  rcases h.1.2 with ⟨h1, -⟩ | ⟨g, cap, cur, h1, hb, hg, -⟩
  · rw [h1] at e; cases e
  · rw [h1] at e
    have : g = k := by simpa [Value.ownBlock] using e
    subst this
    exact ⟨cur, hg⟩

theorem szD_len (N : List Nd) {S : List Int} (hN : KidsAhead N) (h : ∀ k ∈ S, k = -1 ∨ 0 ≤ k ∧ k < (N.length : Int)) : S.length ≤ szD N S := by
  unfold szD
  induction S with
  | nil => simp
  | cons a S ih =>
    have h0 := h a List.mem_cons_self
    have h1 := ih fun k hk => h k (List.mem_cons_of_mem _ hk)
    simp only [List.length_cons, List.map_cons, List.sum_cons]
    by_cases ha : a = -1
    · rw [if_pos ha]; omega
    · rw [if_neg ha]
      obtain ⟨y, hy⟩ : ∃ y, N[a.toNat]? = some y := ⟨N[a.toNat]'(by omega), List.getElem?_eq_getElem _⟩
      have h3 := sz_eq hN hy
      omega
theorem bytes_app (a : List UInt8) (s : ByteArray) : Lib.byteCells (a ++ s.data.toList) = Lib.byteCells a ++ Lib.strCells s := by rw [Lib.byteCells_append]; rfl

def DumpOk (v : List UInt8) (w : World) (e : Ending) (w' : World) : Prop := w.grownBy w' none ∧ ∃ r : ByteArray, e = .returned (.tuple #[.string r, .int .i64 0]) ∧ r.data.toList = v

set_option maxRecDepth 100000 in
set_option maxHeartbeats 16000000 in
theorem Dump_c (l : List Tok) (N : List Nd) (K : Kf) (hf : rightT l.length N) (hN : N.length ≤ 150000) (hm : l.length ≤ 150000) (he : EndsBare l) (pt pn : Option Addr) (ct cn n : Nat) (hn : n < N.length) (hD : (dp (l.map toI) N n).length ≤ 1000000) (w : World) (ht : TAt w pt l) (hw : NodesAt w pn N K) :
    Calls Tryz.prog 23 #[.agg #[.slice pt l.length ct, .slice pn N.length cn], .int .i64 (n : Int)] w (DumpOk (dp (l.map toI) N n) w) := by
  have H1 := Lib.hid (fun W h => asks_c N K hf hN hm pt pn ct cn n hn W h)
  have HOP := Lib.hid (fun k x hx W h1 h2 => opening_c l N K hf.1 hN hm he pt pn ct cn k x hx W h1 h2)
  have hz0 := sz_le hf.1 hn
  have HAH := Lib.hid hf.1.ahead
  have HFO := Lib.hid hf.1
  have HW := Lib.hid hw; have HT := Lib.hid ht
  obtain ⟨M, hM⟩ : ∃ M, N.length = M := ⟨_, rfl⟩
  obtain ⟨m, hm'⟩ : ∃ m, l.length = m := ⟨_, rfl⟩
  have HM := Lib.hid hM
  rw [hM] at hn hN H1 HOP ⊢
  rw [hm'] at H1 HOP ⊢
  obtain ⟨T, hT⟩ : ∃ T, l.map toI = T := ⟨_, rfl⟩
  rw [hT] at HOP hD ⊢
  have hsz : szD N [(n : Int)] ≤ 600000 := by unfold szD; simp only [List.map_cons, List.map_nil, List.sum_cons, List.sum_nil]; rw [if_neg (by omega), Int.toNat_natCast]; omega
  have HSZ0 := Lib.hid hsz
  have HR0 : Hid ([] ++ restD T N n [(n : Int)] = dp T N n) := Lib.hid (by rw [restD_one]; unfold pieceD; rw [if_neg (by omega), if_pos rfl]; simp)
  obtain ⟨D, hDD⟩ : ∃ D, dp T N n = D := ⟨_, rfl⟩
  rw [hDD] at HR0 hD ⊢
  have HDL := Lib.hid hD
  clear hf hw ht hM hm' hT hDD hz0 hsz hm he hD
  go_enter Tryz.func23, Tryz.ntmps23
  go_wp2_with fail
  have hA := heap_alloc_new w (.cells #[.slice pt m ct, .slice pn M cn] 26)
  have hgA := World.grownBy_alloc w (.cells #[.slice pt m ct, .slice pn M cn] 26) none
  generalize (w.alloc (.cells #[.slice pt m ct, .slice pn M cn] 26)) = WA at *
  obtain ⟨b, hb⟩ : ∃ b, w.heap.size = b := ⟨_, rfl⟩
  have HBB := Lib.hid hb
  rw [hb] at hA ⊢
  have HA := Lib.hid hA; have HGA := Lib.hid hgA
  clear hA hgA hb
  refine (H1.out _ (HW.out.kept HGA.out)).mono ?_
  rintro e W1 ⟨rfl, hg⟩
  have HG1 := Lib.hid (gb_trans HGA.out hg)
  have HA1 := Lib.hid (bx hg HA.out)
  have hbW : b < W1.heap.size := hlt' HA1.out
  clear hg HA HGA H1
  go_wp2_with fail
  have hbl := bld_new W1 W1.heap.size (Nat.le_refl _)
  have hgB := World.grownBy_alloc W1 (.cells #[.pointer none, .slice none 0 0] 101) none
  have hsB : (W1.alloc (.cells #[.pointer none, .slice none 0 0] 101)).heap.size = W1.heap.size + 1 := by simp
  generalize (W1.alloc (.cells #[.pointer none, .slice none 0 0] 101)) = W2 at *
  have hO1 := OwnL.new W2 (W1.heap.size + 1) (n : Int) (W1.heap.size + 1) hsB (Nat.le_refl _)
  have hgC := World.grownBy_alloc W2 (.cells #[.int .i64 (n : Int)] 3) none
  generalize (W2.alloc (.cells #[.int .i64 (n : Int)] 3)) = W3 at *
  obtain ⟨b1, hb1⟩ : ∃ b1, W1.heap.size = b1 := ⟨_, rfl⟩
  have HBW := Lib.hid hb1
  rw [hb1] at hbl hO1 hbW ⊢
  have HBL0 := Lib.hid (bld_kept hbl hgC); have HO0 := Lib.hid hO1
  have HB0 : Hid (Below b1 W1 W3) := Lib.hid (Below.gb (gb_trans hgB hgC) (by omega))
  clear hbl hgB hsB hO1 hgC hb1
  go_loopw [8] (fun tv wr => ∃ (out : List UInt8) (S : List Int), Hid (Lib.IsBuilder 101 5 b1 b1 (Lib.byteCells out) wr) ∧ Hid (OwnL wr (b1 + 1) tv S) ∧ Hid (out ++ restD T N n S = D) ∧ Hid (∀ k ∈ S, k = -1 ∨ (0 ≤ k ∧ k ≤ (n : Int))) ∧ Hid (szD N S ≤ 600000) ∧ Hid (Below b1 W1 wr)) (fun tv wr => szD N (readInts wr tv))
  case atStart => exact ⟨[], [(n : Int)], HBL0, HO0, HR0, Lib.hid (fun k hk => by simp at hk; subst hk; omega), HSZ0, HB0⟩
  case round =>
    clear HBL0 HO0 HR0 HB0
    obtain ⟨out, S, HBL, HS, HR, HIN, HSZ, HB⟩ := hrel
    have HGW : Hid (w.grownBy wr none) := Lib.hid (below_gb (Below.trans2 (gb_below HG1.out) (HB.out.mono (by have := HG1.out.size; rw [← HBW.out]; exact this))))
    have hbr : b1 ≤ wr.heap.size := by have := HB.out.size; have := HBW.out; omega
    obtain ⟨a0, a1⟩ := cells_tree ((HB.out.block b hbW).trans HA1.out)
    have hol : out.length ≤ 1000000 := by
      have h1 := HR.out; have h2 := HDL.out
      rw [← h1, List.length_append] at h2; omega
    rcases list_last S with rfl | ⟨S', k, rfl⟩
    · obtain ⟨p, c, rfl, -⟩ := HS.out.parts
      have hOL : out = D := by have := HR.out; simpa [restD] using this
      subst hOL
      have HSTR := Lib.hid (Tryz.Builder_String_any_k b1 b1 _ wr (Lib.IsBuilderF.of HBL.out) hbr)
      simp only [List.length_nil] at *
      go_wp2_with fail
      refine HSTR.out.mono ?_
      rintro e w7 ⟨rfl, -, hbe7, -⟩
      have HG7 : Hid (w.grownBy w7 none) := Lib.hid (below_gb (Below.trans2 (gb_below HGW.out) (hbe7.mono (by have := HG1.out.size; rw [← HBW.out]; exact this))))
      clear hbe7
      go_wp2_with fail
      go_ret2
      exact ⟨HG7.out, _, rfl, rfl⟩
    · obtain ⟨p, c, rfl, hvS, hcS, hcS2, -⟩ := HS.out.parts
      obtain ⟨hpl, hpop, hpb⟩ := HS.out.pop
      have hk01 := HIN.out k (by simp)
      obtain ⟨gs, os, rfl, hgs, cs⟩ := kid_at hvS (l := S' ++ [k]) (j := S'.length) (x := k) (by simp)
      obtain ⟨q, hq⟩ : ∃ q, S'.length = q := ⟨_, rfl⟩
      obtain ⟨q1, hq1⟩ : ∃ q1, (S' ++ [k]).length = q1 := ⟨_, rfl⟩
      have hqq : q1 = q + 1 := by rw [← hq1, ← hq]; simp
      have HQ := Lib.hid hq
      have hz1 := szD_len N HAH.out (S := S' ++ [k]) (fun j hj => (HIN.out j hj).imp id (fun h => by rw [HM.out]; omega))
      have hszl := HSZ.out
      have hq1000 : q1 ≤ 600000 := by omega
      rw [hq1] at hcS hpb HS
      rw [hq] at hpop hpb cs
      have HPOP := Lib.hid hpop; have HPB := Lib.hid hpb
      have HRD := Lib.hid (readInts_own HS.out)
      have hd0 : decide ((0 : Int) < (q1 : Int)) = true := decide_eq_true (by omega)
      have hd0' : decide (0 < q1) = true := decide_eq_true (by omega)
      have hd3 : decide (q ≤ c) = true := decide_eq_true (by omega)
      have hw1 : IntKind.i64.wrap ((q1 : Int) - 1) = (q : Int) := by rw [IntWalk.i64_in _ (by omega)]; omega
      have hqc : q ≤ c := by omega
      have hq01 : q < q1 := by omega
      have hq0 : 0 < q1 := by omega
      have HTB : Hid (∀ k, (Value.slice (some ⟨gs, os, none⟩) q c).ownBlock = some k → b1 + 1 ≤ k) := Lib.hid (fun k e => (OwnG.at HPOP.out k e).1)
      have HTN : Hid ((Value.slice (some ⟨gs, os, none⟩) q c).ownBlock ≠ some b1) := Lib.hid (fun e => by have := HTB.out _ e; omega)
      rw [hq1]
      clear hq hq1 hvS hcS hpop hpb hszl hz1 hqq HS
      by_cases hkm : k = -1
      · subst hkm
        have HCL := Lib.hid (dump_close T N n S')
        have HWS := Lib.hid (WriteString_c b1 b1 _ ⟨#[41]⟩ wr HBL.out (by rw [Lib.byteCells_length]; show out.length + 1 ≤ _; omega) hbr)
        go_wp2_with fail
        refine HWS.out.mono ?_
        rintro e w2 ⟨rfl, ⟨hb2, hbe2⟩, hok2⟩
        have HB2 : Hid (Lib.IsBuilder 101 5 b1 b1 (Lib.byteCells (out ++ [41])) w2) := Lib.hid (.inr (by rw [Lib.byteCells_append]; exact hb2))
        have HP2 := Lib.hid (HPOP.out.okept hok2 HTN.out)
        have HBBc := Lib.hid (Below.trans2 HB.out hbe2)
        clear hb2 hbe2 hok2 HWS
        go_wp2_with fail
        go_roundw
        case rel => exact ⟨out ++ [41], S', HB2, HP2, Lib.hid (by have h := HR.out; rw [HCL.out.1] at h; simpa using h), Lib.hid (fun j hj => HIN.out j (List.mem_append_left _ hj)), Lib.hid (by have h := HSZ.out; rw [HCL.out.2] at h; omega), HBBc⟩
        case measure =>
          show szD N (readInts w2 (.slice (some ⟨gs, os, none⟩) q c)) < szD N (readInts wr (.slice (some ⟨gs, os, none⟩) q1 c))
          rw [readInts_own HP2.out, HRD.out, HCL.out.2]; omega
      · obtain ⟨kn, rfl⟩ : ∃ kn : Nat, k = (kn : Int) := ⟨k.toNat, by omega⟩
        have hkn : kn ≤ n := by omega
        have hknM : kn < M := by omega
        obtain ⟨x, hx⟩ : ∃ x, N[kn]? = some x := ⟨N[kn]'(by rw [HM.out]; exact hknM), List.getElem?_eq_getElem _⟩
        obtain ⟨g, off, rfl, hgl, c0, c1, c2⟩ := node_at HW.out hx
        have HC := Lib.hid (And.intro c0 (And.intro c1 c2))
        have HKA := Lib.hid (HW.out.2 kn x hx)
        have HX := Lib.hid hx
        have HOPX := Lib.hid (fun W h1 h2 => HOP.out kn x hx W h1 h2)
        have hdm : ((kn : Int) == -1) = false := beq_eq_false_iff_ne.2 (by omega)
        have hd2 : decide (kn < M) = true := decide_eq_true hknM
        have hd2' : decide ((kn : Int) < (M : Int)) = true := decide_eq_true (by omega)
        obtain ⟨xk, hxk⟩ : ∃ xk, x.kind = xk := ⟨_, rfl⟩
        obtain ⟨xt, hxt⟩ : ∃ xt, x.tok = xt := ⟨_, rfl⟩
        obtain ⟨kl, hkl⟩ : ∃ kl, x.kids.length = kl := ⟨_, rfl⟩
        have HXK := Lib.hid hxk; have HXT := Lib.hid hxt; have HKL := Lib.hid hkl
        rw [hxk, hxt, hkl] at HC
        obtain ⟨O, hO⟩ : ∃ O, openD T x = O := ⟨_, rfl⟩
        have HOO := Lib.hid hO
        rw [hO] at HOPX
        clear hx hxk hxt hkl hO c0 c1 c2
        have HHL := Lib.hid (fun (hk : x.kind = 19) => dump_leaf (T := T) HFO.out (n := n) (S := S') (k := (kn : Int)) (by omega) HX.out hk)
        have HHN := Lib.hid (fun (hk : x.kind ≠ 19) => dump_node (T := T) HFO.out (n := n) (S := S') (k := (kn : Int)) (by omega) (by omega) HX.out hk)
        rw [HXK.out, HOO.out] at HHL HHN
        have HIN2 : Hid (∀ j ∈ S' ++ [-1] ++ x.kids.reverse, j = -1 ∨ (0 ≤ j ∧ j ≤ (n : Int))) := Lib.hid (fun j hj => by
          rcases List.mem_append.1 hj with hj | hj
          · rcases List.mem_append.1 hj with hj | hj
            · exact HIN.out j (List.mem_append_left _ hj)
            · simp at hj; exact .inl hj
          · have := kids_in HFO.out HX.out j hj
            exact .inr (by omega))
        generalize K kn = kk at *
        obtain ⟨kq, kc⟩ := kk
        simp only at HC HKA
        by_cases hnn : kn = n
        · have e1 : ((kn : Int) == (n : Int)) = true := beq_iff_eq.2 (by omega)
          have e1' : (kn == n) = true := beq_iff_eq.2 hnn
          have e1b : ((kn : Int) != (n : Int)) = false := by rw [bne, e1]; rfl
          have HSEP : Hid ((if (kn : Int) = (n : Int) then ([] : List UInt8) else [32]) = []) := Lib.hid (if_pos (by omega))
          have HXO : Hid (out ++ [] = out) := Lib.hid (List.append_nil _)
          have HNN := Lib.hid hnn
          clear hnn
          have HBL2 : Hid (Lib.IsBuilder 101 5 b1 b1 (Lib.byteCells (out ++ [])) wr) := Lib.hid (by rw [HXO.out]; exact HBL.out)
          have HP2 := HPOP
          have HBB2 := HB
          have hbr2 : b1 ≤ wr.heap.size := by have := HBB2.out.size; have := HBW.out; omega
          have HGW2 : Hid (w.grownBy wr none) := Lib.hid (below_gb (Below.trans2 (gb_below HG1.out) (HBB2.out.mono (by have := HG1.out.size; rw [← HBW.out]; exact this))))
          have b0 := a0; have b01 := a1
          go_wp2_with fail
          refine (HOPX.out wr (HT.out.kept HGW2.out) (HW.out.kept HGW2.out)).mono ?_
          rintro e w3 ⟨⟨s, rfl, hs⟩, hg3⟩
          have HS3 := Lib.hid hs
          have HBL3 := Lib.hid (bld_kept HBL2.out hg3)
          have HP3 : Hid (OwnL w3 (b1 + 1) (.slice (some ⟨gs, os, none⟩) q c) S') := Lib.hid (OwnG.kept HP2.out hg3)
          have HBB3 := Lib.hid (Below.trans2 HBB2.out (Below.gb hg3 hbr2))
          have hol3 : (out ++ []).length + s.size ≤ 1000000 := by
            rw [sz_list hs]
            have h1 := HR.out; have h2 := HDL.out
            by_cases h19 : xk = 19
            · rw [(HHL.out h19).1, HSEP.out] at h1
              rw [← h1] at h2; simp only [List.length_append] at h2 ⊢; simp at h2 ⊢; omega
            · rw [(HHN.out h19).1, HSEP.out] at h1
              rw [← h1] at h2; simp only [List.length_append] at h2 ⊢; simp at h2 ⊢; omega
          have HWS3 := Lib.hid (WriteString_c b1 b1 _ s w3 HBL3.out (by rw [Lib.byteCells_length]; omega) (Nat.le_trans hbr2 hg3.size))
          clear hs hg3 b0 b01 a0 a1 cs HBL2 HP2 HBB2
          go_wp2_with fail
          refine HWS3.out.mono ?_
          rintro e w4 ⟨rfl, ⟨hb4, hbe4⟩, hok4⟩
          have HBL4 : Hid (Lib.IsBuilder 101 5 b1 b1 (Lib.byteCells (out ++ [] ++ O)) w4) := Lib.hid (.inr (by rw [← HS3.out, bytes_app]; exact hb4))
          have HP4 := Lib.hid (HP3.out.okept hok4 HTN.out)
          have HBB4 := Lib.hid (Below.trans2 HBB3.out hbe4)
          have HGW4 : Hid (w.grownBy w4 none) := Lib.hid (below_gb (Below.trans2 (gb_below HG1.out) (HBB4.out.mono (by have := HG1.out.size; rw [← HBW.out]; exact this))))
          obtain ⟨b0, b01⟩ := cells_tree ((HBB4.out.block b hbW).trans HA1.out)
          have c0 := HGW4.out.cell HC.out.1 (by simp)
          have c1 := HGW4.out.cell HC.out.2.1 (by simp)
          have c2 := HGW4.out.cell HC.out.2.2 (by simp)
          have hbr4 : b1 + 1 ≤ w4.heap.size := by
            rcases HBL4.out with h | h
            · exact h.lt
            · exact h.lt
          have hgw4 : g < w4.heap.size := Nat.lt_of_lt_of_le hgl HGW4.out.size
          have hbw4 : b < w4.heap.size := by omega
          clear hb4 hbe4 hok4 HWS3 HBL3 HP3 HBB3 HS3
          by_cases h19 : xk = 19
          · have HD := Lib.hid (HHL.out h19)
            subst h19
            go_wp2_with fail
            go_roundw
            case rel => exact ⟨out ++ [] ++ O, S', HBL4, HP4, Lib.hid (by have h := HR.out; rw [HD.out.1, HSEP.out] at h; rw [← h]; simp), Lib.hid (fun j hj => HIN.out j (List.mem_append_left _ hj)), Lib.hid (by have h := HSZ.out; have h2 := HD.out.2; omega), HBB4⟩
            case measure =>
              show szD N (readInts w4 (.slice (some ⟨gs, os, none⟩) q c)) < szD N (readInts wr (.slice (some ⟨gs, os, none⟩) q1 c))
              rw [readInts_own HP4.out, HRD.out]; have h2 := HD.out.2; omega
          · have HD := Lib.hid (HHN.out h19)
            have d5 : (xk == 19) = false := beq_eq_false_iff_ne.2 h19
            have d5' : (xk != 19) = true := by rw [bne, d5]; rfl
            have HLO : Hid ((one (intsV S')).length = q) := Lib.hid (by rw [one_len, intsV_len]; exact HQ.out)
            have HLE : Hid ((one (intsV S')).length ≤ 1000000) := Lib.hid (by rw [HLO.out]; omega)
            have HKLN : Hid (S'.length + 1 + x.kids.length ≤ 1000000) := Lib.hid (by
              have h1 := szD_len N HAH.out (S := S' ++ [-1] ++ x.kids.reverse) (fun j hj => (HIN2.out j hj).imp id (fun h => by rw [HM.out]; omega))
              have h2 := HD.out.2
              have h3 := HSZ.out
              simp only [List.length_append, List.length_reverse, List.length_singleton] at h1
              omega)
            have HNEW := Lib.hid (heap_alloc_new w4 (.cells #[.int .i64 (-1)] 3))
            have hgN := World.grownBy_alloc w4 (.cells #[.int .i64 (-1)] 3) none
            have HGN := Lib.hid hgN
            clear hgN
            have d01 := HGN.out.cell b01 (by simp)
            have d2 := HGN.out.cell c2 (by simp)
            have hnb : ∀ j, j ≤ b → some j ≠ (Value.slice (some ⟨gs, os, none⟩) q c).ownBlock := fun j hj e => by have := HTB.out j e.symm; omega
            have HNB := Lib.hid hnb
            have hgb : g ≤ b := by
              have h1 := hlt' HA1.out
              have h2 := HBB.out
              omega
            have HAB := Lib.hid (fun (W : World) (tv : Value) (ho : OwnL W (b1 + 1) tv (S' ++ [-1])) (hg : w.grownBy W none) (hb : b1 + 1 ≤ W.heap.size) => appendBackward_c (b1 + 1) (S' ++ [-1]) x.kids tv kq kc W hb ho (HKA.out.kept hg) (fun hne a ha => by
              have h1 := HKA.out.lt (ne_intsV hne) a ha
              refine ⟨Nat.lt_of_lt_of_le h1 hg.size, fun e => ?_⟩
              have h2 := (OwnG.at ho _ e).1
              have h3 := HBB.out
              omega) (by rw [List.length_append, List.length_singleton]; exact HKLN.out))
            rw [HKL.out] at HAB
            clear hnb
            go_wp2_with fail
            go_region_law (first
              | (refine step_appGl (s := 1) (t := 52) (T := 3) (by decide) Tryz.underlying52 infoI rfl (by omega) rfl _ _ rfl (b1 + 1) (one (intsV S')) [.int .i64 (-1)] rfl (by simp [Value.oneCell']) (.slice (some ⟨gs, os, none⟩) q c) rfl (OwnG.kept HP4.out (by repeat (first | with_reducible exact gb_refl _ _ | with_reducible refine gb_drew ?_ | with_reducible refine gb_alloc ?_ _))) w4.heap.size _ rfl (by exact HNEW.out) rfl HLE.out (by simp; omega) (w4.heap.size + 1) (by simp) ?_; intro g9 cap9 w9 hO9 hg9 hl9; have f01 := hg9.cell (a := ⟨b, 1, none⟩) (v := .slice (some ⟨g, off, none⟩) M cn) d01 (HNB.out b (by omega)); have f2 := hg9.cell (a := ⟨g, off + kn * 3 + 2, none⟩) (v := .slice kq kl kc) d2 (HNB.out g hgb); rw [HLO.out] at hO9 ⊢; have HO9 : Hid (OwnL w9 (b1 + 1) (.slice (some ⟨g9, 0, none⟩) (q + 1) cap9) (S' ++ [-1])) := Lib.hid (OwnL.app hO9); have HF9 : Hid (Fr2 (fun j => (Value.slice (some ⟨gs, os, none⟩) q c).ownBlock = some j) (w4.alloc (.cells #[.int .i64 (-1)] 3)) w9) := Lib.hid ⟨hg9.os, hg9.tape, hg9.output, hg9.size, fun j h1 h2 => hg9.block j h1 (fun e => h2 e.symm)⟩; clear hO9 hg9 hl9)
              | (go_simp; go_at_call 49; refine (HAB.out _ _ HO9.out (Fr2.after HGW4.out (Fr2.trans (Fr2.none HGN.out) HF9.out) (fun j e => by have := HTB.out j e; have h3 := HBB.out; omega)) (by have := HF9.out.size; simp at this; omega)).mono ?_; rintro e w5 ⟨v', rfl, hv', hf', -⟩; have HV5 : Hid (OwnL w5 (b1 + 1) v' (S' ++ [-1] ++ x.kids.reverse)) := Lib.hid hv'; have HF5 := Lib.hid hf'; clear hv' hf'))
            all_goals
              have HBL9 := Lib.hid (bld_keptF (bld_kept HBL4.out HGN.out) HF9.out (fun j e => ⟨by have := HTB.out j e; omega, by obtain ⟨cs9, h9⟩ := (OwnL.block (show OwnL (w4.alloc (.cells #[.int .i64 (-1)] 3)) (b1 + 1) (.slice (some ⟨gs, os, none⟩) q c) S' from OwnG.kept HP4.out HGN.out)) j e; exact ⟨cs9, _, h9, by decide⟩⟩))
              have HBL5 := Lib.hid (bld_keptF HBL9.out HF5.out (fun j e => ⟨by have := (OwnG.at HO9.out j e.symm).1; omega, by obtain ⟨cs9, h9⟩ := (OwnL.block HO9.out) j e.symm; exact ⟨cs9, _, h9, by decide⟩⟩))
              have HBB5 : Hid (Below b1 W1 w5) := Lib.hid (Below.trans2 (Below.trans2 (Below.trans2 HBB4.out (Below.gb HGN.out (by omega))) (HF9.out.below (by simp; omega) (fun j e => by have := HTB.out j e; omega))) (HF5.out.below (by have := HF9.out.size; simp at this; omega) (fun j e => by have := (OwnG.at HO9.out j e.symm).1; omega)))
              clear HBL4 HBL9 HO9 HF9 HF5 HP4 HBB4 HAB
              go_wp2_with fail
              go_simp
              refine ⟨⟨out ++ [] ++ O, HBL5, S' ++ [-1] ++ x.kids.reverse, HV5, Lib.hid (by have h := HR.out; rw [HD.out.1, HSEP.out] at h; rw [← h]; simp), HIN2, Lib.hid (by have h := HSZ.out; have h2 := HD.out.2; omega)⟩, ?_⟩
              rw [readInts_own HV5.out, HRD.out]; have h2 := HD.out.2; omega
        · have e1 : ((kn : Int) == (n : Int)) = false := beq_eq_false_iff_ne.2 (by omega)
          have e1' : (kn == n) = false := beq_eq_false_iff_ne.2 hnn
          have e1b : ((kn : Int) != (n : Int)) = true := by rw [bne, e1]; rfl
          have HSEP : Hid ((if (kn : Int) = (n : Int) then ([] : List UInt8) else [32]) = [32]) := Lib.hid (if_neg (by omega))
          have HWS := Lib.hid (WriteString_c b1 b1 _ ⟨#[32]⟩ wr HBL.out (by rw [Lib.byteCells_length]; show out.length + 1 ≤ _; omega) hbr)
          go_wp2_with fail
          refine HWS.out.mono ?_
          rintro e w2 ⟨rfl, ⟨hb2, hbe2⟩, hok2⟩
          have HBL2 : Hid (Lib.IsBuilder 101 5 b1 b1 (Lib.byteCells (out ++ [32])) w2) := Lib.hid (.inr (by rw [Lib.byteCells_append]; exact hb2))
          have HP2 := Lib.hid (HPOP.out.okept hok2 HTN.out)
          have HBB2 := Lib.hid (Below.trans2 HB.out hbe2)
          clear hb2 hbe2 hok2 HWS a0 a1
          have hbr2 : b1 ≤ w2.heap.size := by have := HBB2.out.size; have := HBW.out; omega
          have HGW2 : Hid (w.grownBy w2 none) := Lib.hid (below_gb (Below.trans2 (gb_below HG1.out) (HBB2.out.mono (by have := HG1.out.size; rw [← HBW.out]; exact this))))
          obtain ⟨b0, b01⟩ := cells_tree ((HBB2.out.block b hbW).trans HA1.out)
          go_wp2_with fail
          refine (HOPX.out w2 (HT.out.kept HGW2.out) (HW.out.kept HGW2.out)).mono ?_
          rintro e w3 ⟨⟨s, rfl, hs⟩, hg3⟩
          have HS3 := Lib.hid hs
          have HBL3 := Lib.hid (bld_kept HBL2.out hg3)
          have HP3 : Hid (OwnL w3 (b1 + 1) (.slice (some ⟨gs, os, none⟩) q c) S') := Lib.hid (OwnG.kept HP2.out hg3)
          have HBB3 := Lib.hid (Below.trans2 HBB2.out (Below.gb hg3 hbr2))
          have hol3 : (out ++ [32]).length + s.size ≤ 1000000 := by
            rw [sz_list hs]
            have h1 := HR.out; have h2 := HDL.out
            by_cases h19 : xk = 19
            · rw [(HHL.out h19).1, HSEP.out] at h1
              rw [← h1] at h2; simp only [List.length_append] at h2 ⊢; simp at h2 ⊢; omega
            · rw [(HHN.out h19).1, HSEP.out] at h1
              rw [← h1] at h2; simp only [List.length_append] at h2 ⊢; simp at h2 ⊢; omega
          have HWS3 := Lib.hid (WriteString_c b1 b1 _ s w3 HBL3.out (by rw [Lib.byteCells_length]; omega) (Nat.le_trans hbr2 hg3.size))
          clear hs hg3 b0 b01 HBL2 HP2 HBB2
          go_wp2_with fail
          refine HWS3.out.mono ?_
          rintro e w4 ⟨rfl, ⟨hb4, hbe4⟩, hok4⟩
          have HBL4 : Hid (Lib.IsBuilder 101 5 b1 b1 (Lib.byteCells (out ++ [32] ++ O)) w4) := Lib.hid (.inr (by rw [← HS3.out, bytes_app]; exact hb4))
          have HP4 := Lib.hid (HP3.out.okept hok4 HTN.out)
          have HBB4 := Lib.hid (Below.trans2 HBB3.out hbe4)
          have HGW4 : Hid (w.grownBy w4 none) := Lib.hid (below_gb (Below.trans2 (gb_below HG1.out) (HBB4.out.mono (by have := HG1.out.size; rw [← HBW.out]; exact this))))
          obtain ⟨b0, b01⟩ := cells_tree ((HBB4.out.block b hbW).trans HA1.out)
          have c0 := HGW4.out.cell HC.out.1 (by simp)
          have c1 := HGW4.out.cell HC.out.2.1 (by simp)
          have c2 := HGW4.out.cell HC.out.2.2 (by simp)
          have hbr4 : b1 + 1 ≤ w4.heap.size := by
            rcases HBL4.out with h | h
            · exact h.lt
            · exact h.lt
          have hgw4 : g < w4.heap.size := Nat.lt_of_lt_of_le hgl HGW4.out.size
          have hbw4 : b < w4.heap.size := by omega
          clear hb4 hbe4 hok4 HWS3 HBL3 HP3 HBB3 HS3
          by_cases h19 : xk = 19
          · have HD := Lib.hid (HHL.out h19)
            subst h19
            go_wp2_with fail
            go_roundw
            case rel => exact ⟨out ++ [32] ++ O, S', HBL4, HP4, Lib.hid (by have h := HR.out; rw [HD.out.1, HSEP.out] at h; rw [← h]; simp), Lib.hid (fun j hj => HIN.out j (List.mem_append_left _ hj)), Lib.hid (by have h := HSZ.out; have h2 := HD.out.2; omega), HBB4⟩
            case measure =>
              show szD N (readInts w4 (.slice (some ⟨gs, os, none⟩) q c)) < szD N (readInts wr (.slice (some ⟨gs, os, none⟩) q1 c))
              rw [readInts_own HP4.out, HRD.out]; have h2 := HD.out.2; omega
          · have HD := Lib.hid (HHN.out h19)
            have d5 : (xk == 19) = false := beq_eq_false_iff_ne.2 h19
            have d5' : (xk != 19) = true := by rw [bne, d5]; rfl
            have HLO : Hid ((one (intsV S')).length = q) := Lib.hid (by rw [one_len, intsV_len]; exact HQ.out)
            have HLE : Hid ((one (intsV S')).length ≤ 1000000) := Lib.hid (by rw [HLO.out]; omega)
            have HKLN : Hid (S'.length + 1 + x.kids.length ≤ 1000000) := Lib.hid (by
              have h1 := szD_len N HAH.out (S := S' ++ [-1] ++ x.kids.reverse) (fun j hj => (HIN2.out j hj).imp id (fun h => by rw [HM.out]; omega))
              have h2 := HD.out.2
              have h3 := HSZ.out
              simp only [List.length_append, List.length_reverse, List.length_singleton] at h1
              omega)
            have HNEW := Lib.hid (heap_alloc_new w4 (.cells #[.int .i64 (-1)] 3))
            have hgN := World.grownBy_alloc w4 (.cells #[.int .i64 (-1)] 3) none
            have HGN := Lib.hid hgN
            clear hgN
            have d01 := HGN.out.cell b01 (by simp)
            have d2 := HGN.out.cell c2 (by simp)
            have hnb : ∀ j, j ≤ b → some j ≠ (Value.slice (some ⟨gs, os, none⟩) q c).ownBlock := fun j hj e => by have := HTB.out j e.symm; omega
            have HNB := Lib.hid hnb
            have hgb : g ≤ b := by
              have h1 := hlt' HA1.out
              have h2 := HBB.out
              omega
            have HAB := Lib.hid (fun (W : World) (tv : Value) (ho : OwnL W (b1 + 1) tv (S' ++ [-1])) (hg : w.grownBy W none) (hb : b1 + 1 ≤ W.heap.size) => appendBackward_c (b1 + 1) (S' ++ [-1]) x.kids tv kq kc W hb ho (HKA.out.kept hg) (fun hne a ha => by
              have h1 := HKA.out.lt (ne_intsV hne) a ha
              refine ⟨Nat.lt_of_lt_of_le h1 hg.size, fun e => ?_⟩
              have h2 := (OwnG.at ho _ e).1
              have h3 := HBB.out
              omega) (by rw [List.length_append, List.length_singleton]; exact HKLN.out))
            rw [HKL.out] at HAB
            clear hnb
            go_wp2_with fail
            go_region_law (first
              | (refine step_appGl (s := 1) (t := 52) (T := 3) (by decide) Tryz.underlying52 infoI rfl (by omega) rfl _ _ rfl (b1 + 1) (one (intsV S')) [.int .i64 (-1)] rfl (by simp [Value.oneCell']) (.slice (some ⟨gs, os, none⟩) q c) rfl (OwnG.kept HP4.out (by repeat (first | with_reducible exact gb_refl _ _ | with_reducible refine gb_drew ?_ | with_reducible refine gb_alloc ?_ _))) w4.heap.size _ rfl (by exact HNEW.out) rfl HLE.out (by simp; omega) (w4.heap.size + 1) (by simp) ?_; intro g9 cap9 w9 hO9 hg9 hl9; have f01 := hg9.cell (a := ⟨b, 1, none⟩) (v := .slice (some ⟨g, off, none⟩) M cn) d01 (HNB.out b (by omega)); have f2 := hg9.cell (a := ⟨g, off + kn * 3 + 2, none⟩) (v := .slice kq kl kc) d2 (HNB.out g hgb); rw [HLO.out] at hO9 ⊢; have HO9 : Hid (OwnL w9 (b1 + 1) (.slice (some ⟨g9, 0, none⟩) (q + 1) cap9) (S' ++ [-1])) := Lib.hid (OwnL.app hO9); have HF9 : Hid (Fr2 (fun j => (Value.slice (some ⟨gs, os, none⟩) q c).ownBlock = some j) (w4.alloc (.cells #[.int .i64 (-1)] 3)) w9) := Lib.hid ⟨hg9.os, hg9.tape, hg9.output, hg9.size, fun j h1 h2 => hg9.block j h1 (fun e => h2 e.symm)⟩; clear hO9 hg9 hl9)
              | (go_simp; go_at_call 49; refine (HAB.out _ _ HO9.out (Fr2.after HGW4.out (Fr2.trans (Fr2.none HGN.out) HF9.out) (fun j e => by have := HTB.out j e; have h3 := HBB.out; omega)) (by have := HF9.out.size; simp at this; omega)).mono ?_; rintro e w5 ⟨v', rfl, hv', hf', -⟩; have HV5 : Hid (OwnL w5 (b1 + 1) v' (S' ++ [-1] ++ x.kids.reverse)) := Lib.hid hv'; have HF5 := Lib.hid hf'; clear hv' hf'))
            all_goals
              have HBL9 := Lib.hid (bld_keptF (bld_kept HBL4.out HGN.out) HF9.out (fun j e => ⟨by have := HTB.out j e; omega, by obtain ⟨cs9, h9⟩ := (OwnL.block (show OwnL (w4.alloc (.cells #[.int .i64 (-1)] 3)) (b1 + 1) (.slice (some ⟨gs, os, none⟩) q c) S' from OwnG.kept HP4.out HGN.out)) j e; exact ⟨cs9, _, h9, by decide⟩⟩))
              have HBL5 := Lib.hid (bld_keptF HBL9.out HF5.out (fun j e => ⟨by have := (OwnG.at HO9.out j e.symm).1; omega, by obtain ⟨cs9, h9⟩ := (OwnL.block HO9.out) j e.symm; exact ⟨cs9, _, h9, by decide⟩⟩))
              have HBB5 : Hid (Below b1 W1 w5) := Lib.hid (Below.trans2 (Below.trans2 (Below.trans2 HBB4.out (Below.gb HGN.out (by omega))) (HF9.out.below (by simp; omega) (fun j e => by have := HTB.out j e; omega))) (HF5.out.below (by have := HF9.out.size; simp at this; omega) (fun j e => by have := (OwnG.at HO9.out j e.symm).1; omega)))
              clear HBL4 HBL9 HO9 HF9 HF5 HP4 HBB4 HAB
              go_wp2_with fail
              go_simp
              refine ⟨⟨out ++ [32] ++ O, HBL5, S' ++ [-1] ++ x.kids.reverse, HV5, Lib.hid (by have h := HR.out; rw [HD.out.1, HSEP.out] at h; rw [← h]; simp), HIN2, Lib.hid (by have h := HSZ.out; have h2 := HD.out.2; omega)⟩, ?_⟩
              rw [readInts_own HV5.out, HRD.out]; have h2 := HD.out.2; omega
end Go.Proofs.YtmlcpihedmmlfaaGreatDoor
