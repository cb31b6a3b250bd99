/- opening: what a node's dump begins with. -/
import Derived.Test.YtdfegmdmappefaaDoorUPeek
namespace Go.Proofs.YtdfegmdmappefaaDoor
open Go.RowKit

def toI (t : Tok) : TokI := ⟨(t.kind : Int), t.lead, t.text, (t.pos : Int)⟩
theorem app_list (a b : ByteArray) : (a ++ b).data.toList = a.data.toList ++ b.data.toList := by rw [ByteArray.data_append, Array.toList_append]
theorem sz_list {a : ByteArray} {l : List UInt8} (h : a.data.toList = l) : a.size = l.length := by rw [← list_len, h]

theorem dig_dec (k : Nat) (h : k < 19) : Lib.decDigits k = digL (k : Int) := by
  have : ∀ k, k < 19 → Lib.decDigits k = digL (k : Int) := by
    intro k h
    unfold digL Lib.decDigits
    by_cases h1 : k < 10
    · rw [dif_pos h1, if_pos (by omega)]
      congr 2
    · rw [dif_neg h1, if_neg (by omega)]
      unfold Lib.decDigits
      rw [dif_pos (by omega)]
      rw [show (48 + (k : Int) / 10).toNat = 48 + k / 10 by omega, show (48 + (k : Int) % 10).toNat = 48 + k % 10 by omega]
      rfl
  exact this k h

/-- The end has no text. -/
def EndsBare (l : List Tok) : Prop := ∀ t ∈ l, t.kind = 5 → t.text = []

set_option maxRecDepth 100000 in
set_option maxHeartbeats 8000000 in
theorem opening_c (l : List Tok) (N : List Nd) (K : Kf) (hf : Forms l.length N) (hN : N.length ≤ 1000) (hm : l.length ≤ 1000) (he : EndsBare l) (pt pn : Option Addr) (ct cn n : Nat) (x : Nd) (hx : N[n]? = some x) (w : World) (ht : TAt w pt l) (hw : NodesAt w pn N K) :
    Calls Tryd.prog 28 #[.agg #[.slice pt l.length ct, .slice pn N.length cn], .int .i64 (n : Int)] w (StrGb (openD (l.map toI) x) w) := by
  obtain ⟨f1, f2, f3, f4, f5⟩ := hf.2.1 n x hx
  have hn := (List.getElem?_eq_some_iff.1 hx).1
  obtain ⟨g, off, rfl, hgl, c0, c1, c2⟩ := node_at hw hx
  have HT := Lib.hid ht
  have HE := Lib.hid he
  obtain ⟨M, hM⟩ : ∃ M, N.length = M := ⟨_, rfl⟩
  obtain ⟨m, hm'⟩ : ∃ m, l.length = m := ⟨_, rfl⟩
  have HM := Lib.hid hm'
  rw [hm'] at f3 hm ⊢
  rw [hM] at hn ⊢
  have d1 : decide (n < M) = true := decide_eq_true hn
  have d1' : decide ((n : Int) < (M : Int)) = true := decide_eq_true (by omega)
  have HOP : Hid (∀ r : List UInt8, openD (l.map toI) x = r → StrGb (openD (l.map toI) x) w = StrGb r w) := Lib.hid (fun r h => by rw [h])
  have HOD : Hid (openD (l.map toI) x = if x.kind = 19 then tokL (l.map toI) x.tok else [40] ++ digL x.kind) := Lib.hid rfl
  obtain ⟨D, hD⟩ : ∃ D, openD (l.map toI) x = D := ⟨_, rfl⟩
  rw [hD] at HOD ⊢
  have H3 := Lib.hid f3
  obtain ⟨kd, hkd⟩ : ∃ kd, x.kind = kd := ⟨_, rfl⟩
  obtain ⟨tk, htk⟩ : ∃ tk, x.tok = tk := ⟨_, rfl⟩
  obtain ⟨kl, hkl⟩ : ∃ kl, x.kids.length = kl := ⟨_, rfl⟩
  obtain ⟨kq, hkq⟩ : ∃ kq, (K n).1 = kq := ⟨_, rfl⟩
  obtain ⟨kc, hkc⟩ : ∃ kc, (K n).2 = kc := ⟨_, rfl⟩
  rw [hkd] at f1 f2 f4 H3 c0 HOD
  rw [htk] at f4 c1 H3 HOD
  rw [hkl] at c2
  rw [hkq, hkc] at c2
  clear f3 f5 hkd htk hkl hkq hkc hx hw hM hD ht he hf HOP hm'
  go_enter Tryd.func28, Tryd.ntmps28
  by_cases h19 : kd = 19
  · subst h19
    obtain ⟨-, ht0, ht1⟩ := H3.out rfl
    obtain ⟨tn, rfl⟩ : ∃ tn : Nat, tk = (tn : Int) := ⟨tk.toNat, by omega⟩
    have htn : tn < m := by omega
    obtain ⟨t, htt⟩ : ∃ t, l[tn]? = some t := ⟨l[tn]'(by rw [HM.out]; exact htn), List.getElem?_eq_getElem _⟩
    obtain ⟨g2, off2, rfl, hgl2, hc⟩ := HT.out.resolve_left (fun e => by rw [e] at htt; simp at htt)
    obtain ⟨b0, b1, b2, b3⟩ := hc tn t htt
    have hH : tokL (l.map toI) (tn : Int) = if t.kind = 5 then 36 :: t.text else t.text := by
      unfold tokL
      rw [Int.toNat_natCast, List.getElem?_map, htt]
      simp only [Option.map_some, toI]
      by_cases h : t.kind = 5
      · rw [if_pos h, if_pos (by omega)]
      · rw [if_neg h, if_neg (by omega)]
    have hD2 := HOD.out
    rw [if_pos rfl, hH] at hD2
    have d2 : decide (tn < m) = true := decide_eq_true htn
    have d2' : decide ((tn : Int) < (m : Int)) = true := decide_eq_true (by omega)
    have HEB := Lib.hid (HE.out t (List.mem_of_getElem? htt))
    unfold strV at b1 b2
    obtain ⟨y, hy⟩ : ∃ y : ByteArray, (⟨t.lead.toArray⟩ : ByteArray) = y := ⟨_, rfl⟩
    obtain ⟨z, hz⟩ : ∃ z : ByteArray, (⟨t.text.toArray⟩ : ByteArray) = z := ⟨_, rfl⟩
    have hzl : z.data.toList = t.text := by rw [← hz]
    rw [hy] at b1
    rw [hz] at b2
    have HZL := Lib.hid hzl
    by_cases h5 : t.kind = 5
    · rw [if_pos h5, HEB.out h5] at hD2
      have HD2 := Lib.hid hD2
      replace b0 : w.cell? ⟨g2, off2 + tn * 4, none⟩ = some (.int .i64 5) := by rw [b0, h5]; rfl
      clear hc hH hD2 hy hz hzl htt h5
      go_wp2_with fail
      go_ret
      exact ⟨⟨_, rfl, by rw [HD2.out]⟩, gb_alloc (gb_alloc (World.grownBy_alloc w _ none) _) _⟩
    · rw [if_neg h5] at hD2
      have HD2 := Lib.hid hD2
      have d3 : ((t.kind : Int) == 5) = false := beq_eq_false_iff_ne.2 (by omega)
      have d3' : (t.kind == 5) = false := beq_eq_false_iff_ne.2 h5
      generalize t.kind = tkd at *
      generalize t.pos = tps at *
      clear hc hH hD2 hy hz hzl htt
      go_wp2_with fail
      go_ret
      exact ⟨⟨_, rfl, by rw [HD2.out]; exact HZL.out⟩, gb_alloc (gb_alloc (World.grownBy_alloc w _ none) _) _⟩
  · have d2 : (kd == 19) = false := beq_eq_false_iff_ne.2 h19
    obtain ⟨kn, rfl⟩ : ∃ kn : Nat, kd = (kn : Int) := ⟨kd.toNat, by omega⟩
    have hdd := HOD.out
    rw [if_neg h19, ← dig_dec kn (by omega)] at hdd
    have HDD := Lib.hid hdd
    have HIT := Lib.hid (fun W => Tryd.strconv_Itoa_small kn (by omega) W)
    clear hdd
    go_wp2_with fail
    refine (HIT.out _).mono ?_
    rintro e w1 ⟨rfl, rfl⟩
    obtain ⟨s, hs⟩ : ∃ s : ByteArray, (⟨(Lib.decDigits kn).toArray⟩ : ByteArray) = s := ⟨_, rfl⟩
    have HS : Hid (s.data.toList = Lib.decDigits kn) := Lib.hid (by rw [← hs])
    have hsz : s.size ≤ 100 := by rw [sz_list HS.out, dig_dec kn (by omega)]; have := digL_len (kn : Int); omega
    rw [hs]
    clear hs
    go_wp2_with fail
    go_ret
    exact ⟨⟨_, rfl, by rw [app_list, HS.out, HDD.out]⟩, gb_alloc (World.grownBy_alloc w _ none) _⟩
end Go.Proofs.YtdfegmdmappefaaDoor
