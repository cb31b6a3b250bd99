/- What stands ahead of a token, as the program finds it. -/
import Derived.Test.YtdfegmdmappefaaDoorEFirst
import Derived.Lib.JoinLaws
namespace Go.Proofs.YtdfegmdmappefaaDoor
open Go.RowKit

def IntGb (v : Int) (w : World) (e : Ending) (w' : World) : Prop := e = .returned (.int .i64 v) ∧ w.grownBy w' none
def StrGb (v : List UInt8) (w : World) (e : Ending) (w' : World) : Prop := (∃ r : ByteArray, e = .returned (.string r) ∧ r.data.toList = v) ∧ w.grownBy w' none

theorem drop_while (p : UInt8 → Bool) : ∀ l : List UInt8, l.dropWhile p = l.drop (runN p l)
  | [] => rfl
  | a :: r => by
    unfold runN
    cases h : p a
    · rw [List.dropWhile_cons_of_neg (by simp [h])]; rfl
    · rw [List.dropWhile_cons_of_pos h, drop_while p r]; rfl

theorem trim_bl (l : List UInt8) : Lib.trimLeftS l [32, 9, 13, 10] = l.drop (runN isBl l) := by
  rw [← drop_while]
  unfold Lib.trimLeftS
  congr 1
  funext b
  simp only [List.contains_cons, isBl, List.contains_nil, Bool.or_false, Bool.or_assoc]

theorem sk_blanks : ∀ l : List UInt8, sk false l = runN isBl l + sk false (l.drop (runN isBl l))
  | [] => rfl
  | a :: r => by
    unfold runN
    cases h : isBl a
    · simp
    · have := sk_blanks r
      simp only [sk, h, if_true, List.drop_succ_cons]
      omega

theorem bl_stop (l : List UInt8) : ∀ b, (l.drop (runN isBl l)).head? = some b → isBl b = false := by
  induction l with
  | nil => intro b h; simp [runN] at h
  | cons a r ih =>
    intro b h
    unfold runN at h
    cases ha : isBl a
    · rw [ha] at h; simp at h; subst h; exact ha
    · rw [ha] at h; exact ih b (by simpa using h)

theorem sk_zero {l : List UInt8} (h1 : ∀ b, l.head? = some b → isBl b = false) (h2 : List.isPrefixOf [45, 45] l = false) : sk false l = 0 := by
  cases l with
  | nil => rfl
  | cons a r =>
    have h3 := h1 a rfl
    simp only [sk, h3]
    rw [if_neg (by simp), if_neg]
    rintro ⟨rfl, hr⟩
    cases r with
    | nil => cases hr
    | cons b r => simp at hr; subst hr; simp [List.isPrefixOf] at h2

def nlN (l : List UInt8) : Nat := runN (fun b => b != 10) l

theorem sk_true : ∀ l : List UInt8, sk true l = min (nlN l + 1) l.length + sk false (l.drop (nlN l + 1))
  | [] => by simp [sk]
  | a :: r => by
    by_cases h : a = 10
    · subst h
      have : nlN (10 :: r) = 0 := rfl
      rw [this]; simp [sk]; omega
    · have hb : (a != 10) = true := by simpa using h
      have e : nlN (a :: r) = nlN r + 1 := by unfold nlN; simp only [runN, hb]; rfl
      have ih := sk_true r
      rw [e]; simp only [sk, if_neg h, List.drop_succ_cons, List.length_cons]
      omega

theorem sk_remark {l : List UInt8} (h : List.isPrefixOf [45, 45] l = true) : sk false l = min (nlN l + 1) l.length + sk false (l.drop (nlN l + 1)) ∧ 0 < l.length := by
  match l, h with
  | [], h => simp [List.isPrefixOf] at h
  | [a], h => simp [List.isPrefixOf] at h
  | a :: b :: r, h =>
    simp [List.isPrefixOf] at h
    obtain ⟨rfl, rfl⟩ := h
    have e : sk false (45 :: 45 :: r) = sk true (45 :: 45 :: r) := by
      simp [sk, isBl]
    rw [e]
    exact ⟨sk_true _, by simp⟩

theorem nlN_none {l : List UInt8} (h : Lib.indexByte l 10 = -1) : nlN l = l.length := by
  refine runN_drop _ (Nat.le_refl _) (fun j b _ hb => ?_) (fun b hb => ?_)
  · have h1 := Lib.indexByte_none h j
    rw [hb] at h1
    simpa using fun e => h1 (by rw [e])
  · rw [List.getElem?_eq_none (Nat.le_refl _)] at hb; cases hb

theorem nlN_some {l : List UInt8} {o : Nat} (h : Lib.indexByte l 10 = o) : nlN l = o ∧ o < l.length := by
  obtain ⟨h1, h2⟩ := Lib.indexByte_some h
  have ho := (List.getElem?_eq_some_iff.1 h1).1
  refine ⟨runN_drop _ (by omega) (fun j b hj hb => ?_) (fun b hb => ?_), ho⟩
  · have h3 := h2 j hj
    rw [hb] at h3
    simpa using fun e => h3 (by rw [e])
  · rw [h1] at hb; injection hb with hb; subst hb; rfl

theorem ext_end (s : ByteArray) (a n : Nat) (h : s.size = n) : (s.extract a n).data.toList = s.data.toList.drop a := by
  rw [ext_list, List.take_of_length_le (by rw [list_len]; omega)]

/-- What Cut at a line's end answers. -/
def CutIs (l : List UInt8) (w : World) (e : Ending) (w' : World) : Prop := (∃ (x y : ByteArray) (b : Bool), e = .returned (.tuple #[.string x, .string y, .bool b]) ∧ y.data.toList = l.drop (nlN l + 1)) ∧ w.grownBy w' none

set_option maxRecDepth 100000 in
set_option maxHeartbeats 4000000 in
theorem slcut_c (s : ByteArray) (w : World) (hs : s.size ≤ 1000000) : Calls Tryd.prog 74 #[.string s, .string ⟨#[10]⟩] w (CutIs s.data.toList w) := by
  obtain ⟨n, hn⟩ : ∃ n, s.size = n := ⟨_, rfl⟩
  have HN := Lib.hid hn
  rw [hn] at hs
  have hL : s.data.toList.length = n := by rw [← hn]; exact Array.length_toList
  have hx := Tryd.stringslite_Index_one s 10 w
  by_cases h : Lib.indexByte s.data.toList 10 = -1
  · rw [h] at hx
    have HX := Lib.hid hx
    have HR := Lib.hid (nlN_none h)
    have HL := Lib.hid hL
    clear hx h hL
    go_enter Tryd.func74, Tryd.ntmps74
    go_wp2_with fail
    refine HX.out.mono ?_
    rintro e w' ⟨rfl, rfl⟩
    clear HX
    go_wp2_with fail
    go_ret3
    exact ⟨⟨_, _, _, rfl, by rw [HR.out, List.drop_of_length_le (by omega)]⟩, gb_refl _ _⟩
  · have hge := Lib.indexByte_ge s.data.toList 10
    obtain ⟨o, he⟩ : ∃ o : Nat, Lib.indexByte s.data.toList 10 = o := ⟨(Lib.indexByte s.data.toList 10).toNat, by omega⟩
    rw [he] at hx
    have HX := Lib.hid hx
    obtain ⟨hr, hon⟩ := nlN_some he
    have HR := Lib.hid hr
    rw [hL] at hon
    have hw1 : IntKind.i64.wrap ((o : Int) + 1) = (o : Int) + 1 := IntWalk.i64_in _ (by omega)
    have HE : Hid ((s.extract (o + 1) n).data.toList = s.data.toList.drop (o + 1)) := Lib.hid (ext_end s _ n HN.out)
    clear hx h hL hge he hr
    go_enter Tryd.func74, Tryd.ntmps74
    go_wp2_with fail
    refine HX.out.mono ?_
    rintro e w' ⟨rfl, rfl⟩
    clear HX
    go_wp2_with fail
    go_quiet (fail)
    go_wp2_with fail
    go_ret3
    exact ⟨⟨_, _, _, rfl, by rw [HR.out]; exact HE.out⟩, gb_drewN (gb_refl _ _) _⟩

set_option maxRecDepth 100000 in
set_option maxHeartbeats 4000000 in
theorem scut_c (s : ByteArray) (w : World) (hs : s.size ≤ 1000000) : Calls Tryd.prog 58 #[.string s, .string ⟨#[10]⟩] w (CutIs s.data.toList w) := by
  have H := Lib.hid (slcut_c s w hs)
  clear hs
  go_enter Tryd.func58, Tryd.ntmps58
  go_wp2_with fail
  refine H.out.mono ?_
  rintro e w' ⟨⟨x, y, b, rfl, hy⟩, hg⟩
  have HG := Lib.hid hg; have HY := Lib.hid hy
  clear hg hy
  go_wp2_with fail
  go_ret3
  exact ⟨⟨x, y, b, rfl, HY.out⟩, HG.out⟩

theorem trim_c (s : ByteArray) (w : World) : Calls Tryd.prog 56 #[.string s, .string ⟨#[32, 9, 13, 10]⟩] w (StrGb (s.data.toList.drop (runN isBl s.data.toList)) w) := by
  refine (Any.strings_TrimLeft_laid Tryd.lays161 (by kernel_rfl) s ⟨#[32, 9, 13, 10]⟩ w (by decide) (ascii_of_all (by decide))).mono ?_
  rintro e w' ⟨rfl, hb⟩
  exact ⟨⟨_, rfl, by rw [← trim_bl]⟩, below_gb hb⟩

set_option maxRecDepth 100000 in
set_option maxHeartbeats 4000000 in
theorem leadSize_c (s : ByteArray) (w : World) (hs : s.size ≤ 1000000) : Calls Tryd.prog 40 #[.string s] w (IntGb (sk false s.data.toList) w) := by
  obtain ⟨n, hn⟩ : ∃ n, s.size = n := ⟨_, rfl⟩
  have HN := Lib.hid hn
  rw [hn] at hs
  go_enter Tryd.func40, Tryd.ntmps40
  go_wp2_with fail
  go_loopw [3] (fun r wr => ∃ (p : Nat) (t : ByteArray), p ≤ n ∧ r = .string t ∧ t.size = n - p ∧ Hid (t.data.toList = s.data.toList.drop p ∧ sk false s.data.toList = p + sk false (s.data.toList.drop p)) ∧ Hid (w.grownBy wr none)) (fun r _ => Lib.strSize r)
  case atStart => exact ⟨0, s, Nat.zero_le _, rfl, by omega, Lib.hid ⟨rfl, by simp⟩, gb_refl _ _⟩
  case round =>
    obtain ⟨p, t, hp, rfl, hts, HT, HG⟩ := hrel
    have HTS := Lib.hid hts
    clear hts
    go_wp2_with fail
    refine (trim_c t wr).mono ?_
    rintro e w1 ⟨⟨t1, rfl, h1⟩, hg1⟩
    have HG1 := Lib.hid (gb_trans HG.out hg1)
    have hL : s.data.toList.length = n := by rw [list_len, HN.out]
    have hq : ∃ q, runN isBl (s.data.toList.drop p) = q ∧ p + q ≤ n := ⟨_, rfl, by have := runN_le isBl (s.data.toList.drop p); rw [List.length_drop] at this; omega⟩
    obtain ⟨q, hq, hqn⟩ := hq
    have hb := sk_blanks (s.data.toList.drop p)
    have hst := bl_stop (s.data.toList.drop p)
    rw [HT.out.1, hq, List.drop_drop] at h1
    rw [hq, List.drop_drop] at hb hst
    have hsk : sk false s.data.toList = p + q + sk false (s.data.toList.drop (p + q)) := by rw [HT.out.2, hb]; omega
    have ht1 : t1.size = n - (p + q) := by rw [← list_len, h1, List.length_drop, hL]
    have HP := Lib.hid (Tryd.strings_HasPrefix t1 ⟨#[45, 45]⟩ w1)
    rw [hasPrefix_pre, h1] at HP
    change Hid (Calls _ _ _ _ fun e w' => e = .returned (.bool (List.isPrefixOf [45, 45] (s.data.toList.drop (p + q)))) ∧ w' = w1) at HP
    cases hpre : List.isPrefixOf [45, 45] (s.data.toList.drop (p + q))
    · rw [hpre] at HP
      have HR : Hid (sk false s.data.toList = p + q) := Lib.hid (by rw [hsk, sk_zero hst hpre]; rfl)
      have HT1 := Lib.hid ht1
      clear h1 hb hst hsk hpre hg1 hq hL HT ht1
      go_wp2_with fail
      refine HP.out.mono ?_
      rintro e w2 ⟨rfl, rfl⟩
      clear HP
      have hz : t1.size ≤ n := by have := HT1.out; omega
      go_wp2_with fail
      go_ret
      exact ⟨ret_int (by rw [HR.out]; have := HT1.out; omega), HG1.out⟩
    · rw [hpre] at HP
      have HCU := Lib.hid (scut_c t1 w1 (by omega))
      obtain ⟨hr1, hr2⟩ := sk_remark hpre
      rw [h1] at HCU
      rw [List.drop_drop] at hr1
      rw [List.length_drop, hL] at hr1 hr2
      obtain ⟨m, hm⟩ : ∃ m, nlN (s.data.toList.drop (p + q)) = m := ⟨_, rfl⟩
      rw [hm] at hr1
      have HM := Lib.hid hm
      have HR := Lib.hid hsk; have HR1 := Lib.hid hr1; have HLL := Lib.hid hL; have HT1 := Lib.hid ht1
      clear h1 hb hst hsk hpre hg1 hq hL hm hr1 HT ht1
      go_wp2_with fail
      refine HP.out.mono ?_
      rintro e w2 ⟨rfl, rfl⟩
      clear HP
      go_wp2_with fail
      refine HCU.out.mono ?_
      rintro e w3 ⟨⟨x, y, b, rfl, hy⟩, hg⟩
      rw [HM.out, List.drop_drop] at hy
      have HG3 := Lib.hid (gb_trans HG1.out hg)
      have hys : y.size = n - (p + q + (m + 1)) := by rw [← list_len, hy, List.length_drop, HLL.out]
      have HY := Lib.hid hy; have HYS := Lib.hid hys
      clear HCU hg hy hys
      go_wp2_with fail
      go_roundw
      case rel =>
        by_cases hmn : p + q + (m + 1) ≤ n
        · exact ⟨p + q + (m + 1), y, hmn, rfl, HYS.out, Lib.hid ⟨HY.out, by rw [HR.out, HR1.out, Nat.min_eq_left (by omega)]; omega⟩, HG3⟩
        · refine ⟨n, y, Nat.le_refl _, rfl, by rw [HYS.out]; omega, Lib.hid ⟨?_, ?_⟩, HG3⟩
          · rw [HY.out, List.drop_of_length_le (by rw [HLL.out]; omega), List.drop_of_length_le (by rw [HLL.out]; omega)]
          · rw [HR.out, HR1.out, Nat.min_eq_right (by omega), List.drop_of_length_le (l := s.data.toList) (i := p + q + (m + 1)) (by rw [HLL.out]; omega), List.drop_of_length_le (l := s.data.toList) (i := n) (by rw [HLL.out]; omega)]
            simp [sk]; omega
      case measure =>
        rw [Lib.strSize_string, Lib.strSize_string, HYS.out, HTS.out]
        omega
end Go.Proofs.YtdfegmdmappefaaDoor
