/- Lemmas. -/
import Derived.Deep.MidRow
import Derived.Lib.JoinLaws
import Derived.Shelf.Strings.SlTrimAscii
import Derived.Test.YtjbgnopnehgbaaaGreatDoorP0
import Derived.Test.YtjbgnopnehgbaaaGreatDoorP1
set_option linter.unusedVariables false
set_option linter.unusedSimpArgs false
set_option maxRecDepth 100000
namespace Go.Proofs.YtjbgnopnehgbaaaGreatDoor
open Go.RowKit
theorem ua {a b:Bool} (h:a=b):Ending.returned (.bool a)=.returned (.bool b):=by rw [h]
theorem R4 {k:IntKind} {a b:Int} (h:a=b):Ending.returned (.int k a)=.returned (.int k b):=by rw [h]
def uZ (v:Bool) (w:World) (e:Ending) (w':World):Prop:=e=.returned (.bool v)∧w=w'
theorem GW (b:UInt8):eT b=((decide (97≤b.toNat) && decide (b.toNat≤122)) || (decide (65≤b.toNat) && decide (b.toNat≤90))):=by
 unfold eT;simp only [UInt8.le_iff_toNat_le];rfl
theorem Im (b:UInt8):cH b=(decide (48≤b.toNat) && decide (b.toNat≤57)):=by
 unfold cH;simp only [UInt8.le_iff_toNat_le];rfl
theorem V2 (b c:UInt8):(b == c)=decide (b.toNat=c.toNat):=by
 rw [Bool.eq_iff_iff];simp [UInt8.toNat_inj]
theorem pQ (b:UInt8) (w:World):Calls Tryz.prog 114 #[.int .u8 (b.toNat:Int)] w (uZ (cH b) w):=by
 rw [Im]
 have hb:=b.toNat_lt
 generalize b.toNat=n at *
 go_enter Tryz.func114,Tryz.ntmps114
 go_wp2
 all_goals
  go_ret
  refine⟨ua ?_,rfl⟩
  rw [Bool.eq_iff_iff];simp;try omega
theorem uQ (b:UInt8) (w:World):Calls Tryz.prog 110 #[.int .u8 (b.toNat:Int)] w (uZ (eT b) w):=by
 rw [GW]
 have hb:=b.toNat_lt
 generalize b.toNat=n at *
 go_enter Tryz.func110,Tryz.ntmps110
 go_wp2
 all_goals
  go_ret
  refine⟨ua ?_,rfl⟩
  rw [Bool.eq_iff_iff];simp;try omega
theorem MY (b:UInt8) (w:World):Calls Tryz.prog 112 #[.int .u8 (b.toNat:Int)] w (uZ (inW b) w):=by
 have HL:=zh (fun W=>uQ b W)
 have HD:=zh (fun W=>pQ b W)
 unfold inW
 rw [V2,show(95:UInt8).toNat=95 from rfl]
 generalize eT b=x at *
 generalize cH b=y at *
 have hb:=b.toNat_lt
 generalize b.toNat=n at *
 cases x<;>cases y
 all_goals
  go_enter Tryz.func112,Tryz.ntmps112
  go_wp2_with (first | (go_at_call 110;refine(HL.out _).mono ?_;rintro e w' ⟨rfl,rfl⟩) | (go_at_call 114;refine(HD.out _).mono ?_;rintro e w' ⟨rfl,rfl⟩))
  go_ret
  refine⟨ua ?_,rfl⟩
  rw [Bool.eq_iff_iff];simp;try omega
set_option maxHeartbeats 2000000
theorem byte_at {s:ByteArray} {k:Nat} (h:k<s.size):s.data.toList[k]? = some s[k]:=by
 rw [List.getElem?_eq_getElem (by rw [Array.length_toList];exact h)];rfl
theorem aM (s:ByteArray):s.data.toList.length=s.size:=Array.length_toList
theorem Sz {b:UInt8} (c:UInt8) {n:Int} (hc:(c.toNat:Int)=n) (h:¬b=c):((b.toNat:Int) == n)=false:=by
 subst hc
 rw [beq_eq_false_iff_ne]
 intro e
 exact h (UInt8.toNat_inj.1 (Int.ofNat_inj.1 e))
def Cp (v:Int) (w:World) (e:Ending) (w':World):Prop:=e=.returned (.int .i64 v)∧w=w'
def rL (p:UInt8→Bool) (s:ByteArray) (k:Nat):Prop:=k≤s.size∧∀j b,j<k→s.data.toList[j]? = some b→p b=true
theorem rL.more {p:UInt8→Bool} {s:ByteArray} {k:Nat} (h:rL p s k) (hk:k<s.size) (hp:p s[k]=true):rL p s (k+1):=
 ⟨hk,fun j b hj hb=>by
  by_cases e:j=k
  ·subst e;rw [byte_at hk] at hb;injection hb with hb;rw [←hb];exact hp
  ·exact h.2 j b (by omega) hb⟩
theorem rL.stop {p:UInt8→Bool} {s:ByteArray} {k:Nat} (h:rL p s k) (hk:k<s.size) (hp:p s[k]=false):runN p s.data.toList=k:=
 mQ p (by rw [aM];exact h.1) h.2 (fun b hb=>by rw [byte_at hk] at hb;injection hb with hb;rw [←hb];exact hp)
theorem rL.all {p:UInt8→Bool} {s:ByteArray} {k:Nat} (h:rL p s k) (hk:k=s.size):runN p s.data.toList=k:=
 mQ p (by rw [aM];exact h.1) h.2 (fun b hb=>by rw [List.getElem?_eq_none (by rw [aM];omega)] at hb;cases hb)
theorem ED (p:UInt8→Bool) (g:Nat) (hg:∀b w,Calls Tryz.prog g #[.int .u8 (b.toNat:Int)] w (uZ (p b) w)) (he:∀args w,(callFunc g args).run Tryz.prog w=.ok (.enter g args) w)
  (s:ByteArray) (w:World) (hs:s.size≤1000000):Calls Tryz.prog 111 #[.string s,.func (.func g) #[] #[]] w (Cp (runN p s.data.toList) w):=by
 have HC:=zh hg
 clear hg
 go_enter Tryz.func111,Tryz.ntmps111
 go_wp2
 go_loopw [5] (fun i wr=>∃k:Nat,k≤s.size∧i=.int .i64 k∧Hid (rL p s k)∧wr=w) (fun i _=>s.size - (intOf i).toNat)
 case atStart=>exact⟨0,Nat.zero_le _,rfl,zh ⟨Nat.zero_le _,fun j b hj=>absurd hj (Nat.not_lt_zero _)⟩,rfl⟩
 case round=>
  obtain⟨k,hk,rfl,HA,rfl⟩:=hrel
  by_cases hlt:k<s.size
  ·have d1:decide ((k:Int)<(s.size:Int))=true:=zd (by omega)
   have uR:decide (k<s.size)=true:=zd hlt
   have HB:=zh (HC.out s[k])
   cases hp:p s[k]
   ·rw [hp] at HB
    have HR:=zh (HA.out.stop hlt hp)
    clear hp HC
    go_wp2_with (refine(HB.out _).mono ?_;rintro e w' ⟨rfl,rfl⟩)
    go_ret
    exact⟨by rw [HR.out];rfl,rfl⟩
   ·rw [hp] at HB
    have HR:=zh (HA.out.more hlt hp)
    clear hp HC
    go_wp2_with (refine(HB.out _).mono ?_;rintro e w' ⟨rfl,rfl⟩)
    go_roundw
    case rel=>exact⟨k+1,by omega,by go_num,HR,by first | rfl | trivial⟩
    case measure=>(simp [intOf]<;>omega)
  ·obtain rfl:k=s.size:=by omega
   have d1:decide ((s.size:Int)<(s.size:Int))=false:=decide_eq_false (by omega)
   have HR:=zh (HA.out.all rfl)
   go_wp2
   go_ret
   exact⟨by rw [HR.out];rfl,rfl⟩
theorem Va (s:ByteArray) (w:World) (hs:s.size≤1000000):Calls Tryz.prog 111 #[.string s,.func (.func 112) #[] #[]] w (Cp (runN inW s.data.toList) w):=
 ED inW 112 MY (fun _ _=>enters_of Tryz.func112 (by kernel_rfl) rfl _ _) s w hs
theorem X8 (s:ByteArray) (w:World) (hs:s.size≤1000000):Calls Tryz.prog 111 #[.string s,.func (.func 114) #[] #[]] w (Cp (runN cH s.data.toList) w):=
 ED cH 114 pQ (fun _ _=>enters_of Tryz.func114 (by kernel_rfl) rfl _ _) s w hs
set_option maxHeartbeats 4000000
def aw (x:List UInt8):Value:=.string ⟨x.toArray⟩
theorem abO:Tryz.prog.globalNamed "touchstone/lex.keys" = some 0:=by kernel_rfl
theorem V9:Tryz.prog.globalNamed "touchstone/lex.signs" = some 1:=by kernel_rfl
def cM (w:World):Prop:=(∀j v,(eV.map aw)[j]? = some v→w.cell? ⟨0,j,none⟩=some v)∧(∀j v,(eZ.map aw)[j]? = some v→w.cell? ⟨1,j,none⟩=some v)
theorem cM.kept {w w':World} (h:cM w) (hg:w.grownBy w' none):cM w':=
 ⟨fun j v hj=>hg.cell (h.1 j v hj) (by simp),fun j v hj=>hg.cell (h.2 j v hj) (by simp)⟩
theorem Ii {t:TypeId} {n:Nat} (ht:Tryz.prog.underlying t=some (.array n 9)) (A:Array Value) (k:Nat) (v:Value) (hk:k<n) (hv:A[k]? = some v) (w:World):
  (Instr.index t (.agg A) (.int .i64 (k:Int))).run Tryz.prog w=.ok v w:=by
 simp [Instr.index,run_underlying ht,asIntOf,hk,part,Tryz.sizeOf9,Tryz.isAgg9,go_sem,hv]
theorem toList_data (s:ByteArray):s.toList=s.data.toList:=Lib.toList_data s
def Am (A:Value) (L:List (List UInt8)):Prop:=A=.agg (L.map aw).toArray
theorem Am.run {A:Value} {L:List (List UInt8)} (h:Am A L) {t:TypeId} {n:Nat} (ht:Tryz.prog.underlying t=some (.array n 9)) (hn:L.length=n) {k:Nat} {x:List UInt8} (hx:L[k]? = some x) (w:World):
  (Instr.index t A (.int .i64 (k:Int))).run Tryz.prog w=.ok (.string ⟨x.toArray⟩) w:=by
 rw [h]
 refine Ii ht _ k _ ?_ ?_ w
 ·have:=(List.getElem?_eq_some_iff.1 hx).1;omega
 ·simp [hx,aw]
theorem vD {L:List (List UInt8)} {k:Nat} {x s:List UInt8} (h:L.contains s=(L.drop k).contains s) (hx:L[k]? = some x) (bl:x≠s):L.contains s=(L.drop (k+1)).contains s:=by
 have e:L.drop k=x::L.drop (k+1):=by
  obtain⟨hk,rfl⟩:=List.getElem?_eq_some_iff.1 hx
  exact List.drop_eq_getElem_cons hk
 have hb:(s == x)=false:=by simpa using fun e=>bl e.symm
 rw [h,e,List.contains_cons,hb,Bool.false_or]
theorem Zu:(Tryz.prog.info? 198).map (·.size)=some (eV.map aw).length:=by kernel_rfl
theorem abv:(Tryz.prog.info? 199).map (·.size)=some (eZ.map aw).length:=by kernel_rfl
theorem Rm (s:ByteArray) (w:World) (h:cM w):Calls Tryz.prog 113 #[.string s] w (uZ (eV.contains s.data.toList) w):=by
 obtain⟨h0,-⟩:=h
 have hr:w.rangeAt 0 0 (eV.map aw):=fun j v hj=>by rw [Nat.zero_add];exact h0 j v hj
 have H4:=zh hr
 clear hr
 clear h0
 have gM:Hid (eV.contains s.data.toList=(eV.drop 0).contains s.data.toList):=zh rfl
 have CS:=zh (toList_data s)
 go_enter Tryz.func113,Tryz.ntmps113
 go_wp2_with (refine wpList_load_mid rfl 198 _ rfl 0 0 rfl (eV.map aw) _ H4.out Tryz.underlying198 rfl Zu ?_)
 have HA:Hid (Am (.agg (eV.map aw).toArray) eV):=zh rfl
 generalize Value.agg (eV.map aw).toArray=A at *
 go_wp2
 go_loopw [6] (fun i wr=>∃k:Nat,k≤15∧i=.int .i64 k∧Hid (eV.contains s.data.toList=(eV.drop k).contains s.data.toList)∧wr=w) (fun i _=>15 - (intOf i).toNat)
 case atStart=>exact⟨0,Nat.zero_le _,rfl,gM,rfl⟩
 case round=>
  clear gM
  obtain⟨k,hk,rfl,HC,rfl⟩:=hrel
  by_cases hlt:k<15
  ·have d1:decide ((k:Int)<15)=true:=zd (by omega)
   have uR:decide (k<15)=true:=zd hlt
   obtain⟨x,hx⟩:∃x,eV[k]? = some x:=⟨eV[k]'hlt,List.getElem?_eq_getElem _⟩
   have pj:=HA.out.run (t:=198) (n:=15) Tryz.underlying198 rfl hx
   obtain⟨y,hy⟩:∃y:ByteArray,(⟨x.toArray⟩:ByteArray)=y:=⟨_,rfl⟩
   have lL:y.toList=x:=by rw [toList_data,←hy]
   rw [hy] at pj
   by_cases he:x=s.data.toList
   ·have d2:(y.toList == s.toList)=true:=by rw [lL,CS.out,he];simp
    have HR:Hid (eV.contains s.data.toList=true):=zh (by rw [←he];simpa using List.mem_of_getElem? hx)
    clear hx he lL hy
    go_wp2
    go_ret
    exact⟨by rw [HR.out];rfl,rfl⟩
   ·have d2:(y.toList == s.toList)=false:=by rw [lL,CS.out];simpa using he
    have HR:=zh (vD HC.out hx he)
    clear hx he lL hy
    go_wp2
    go_roundw
    case rel=>exact⟨k+1,by omega,by go_num,HR,by first | rfl | trivial⟩
    case measure=>(simp [intOf]<;>omega)
  ·obtain rfl:k=15:=by omega
   have HR:Hid (eV.contains s.data.toList=false):=zh HC.out
   go_wp2
   go_ret
   exact⟨by rw [HR.out];rfl,rfl⟩
theorem nJ (l p:List UInt8):Lib.hasPrefix l p=p.isPrefixOf l:=rfl
theorem QS {L:List (List UInt8)} {k:Nat} {x l:List UInt8} (hx:L[k]? = some x):fm (L.take (k+1)) l 0=if x.isPrefixOf l then max (fm (L.take k) l 0) x.length else fm (L.take k) l 0:=by
 rw [List.take_add_one,hx];exact SC _ _ _ _
theorem CW (s:ByteArray) (w:World) (h:cM w):Calls Tryz.prog 115 #[.string s] w (Cp (jV s.data.toList) w):=by
 obtain⟨-,h0⟩:=h
 have hr:w.rangeAt 1 0 (eZ.map aw):=fun j v hj=>by rw [Nat.zero_add];exact h0 j v hj
 have H4:=zh hr
 clear hr
 clear h0
 have HP:=zh (fun p W=>Tryz.strings_HasPrefix s p W)
 go_enter Tryz.func115,Tryz.ntmps115
 go_wp2_with (refine wpList_load_mid rfl 199 _ rfl 1 0 rfl (eZ.map aw) _ H4.out Tryz.underlying199 rfl abv ?_)
 have HA:Hid (Am (.agg (eZ.map aw).toArray) eZ):=zh rfl
 generalize Value.agg (eZ.map aw).toArray=A at *
 go_wp2
 go_loopw [3,7] (fun m i wr=>∃(k z:Nat),k≤22∧i=.int .i64 k∧m=.int .i64 z∧z≤2∧Hid (fm (eZ.take k) s.data.toList 0=z)∧wr=w) (fun _ i _=>22 - (intOf i).toNat)
 case atStart=>exact⟨0,0,Nat.zero_le _,rfl,rfl,by omega,zh rfl,rfl⟩
 case round=>
  obtain⟨k,z,hk,rfl,rfl,hz,HC,rfl⟩:=hrel
  by_cases hlt:k<22
  ·have d1:decide ((k:Int)<22)=true:=zd (by omega)
   have uR:decide (k<22)=true:=zd hlt
   obtain⟨x,hx⟩:∃x,eZ[k]? = some x:=⟨eZ[k]'hlt,List.getElem?_eq_getElem _⟩
   have pj:=HA.out.run (t:=199) (n:=22) Tryz.underlying199 rfl hx
   have zS:x.length≤2:=(show ∀g∈eZ,g.length≤2 by decide) x (List.mem_of_getElem? hx)
   have hn:=QS (l:=s.data.toList) hx
   rw [HC.out] at hn
   obtain⟨y,hy⟩:∃y:ByteArray,(⟨x.toArray⟩:ByteArray)=y:=⟨_,rfl⟩
   have lL:y.data.toList=x:=by rw [←hy]
   have jL:y.size=x.length:=by rw [←aM,lL]
   rw [hy] at pj
   have hp:=HP.out y
   rw [nJ,lL] at hp
   cases og:x.isPrefixOf s.data.toList
   ·rw [og] at hp
    rw [og,if_neg (by simp)] at hn
    have Sd:=zh hp
    have HN:=zh hn
    clear hp hn hx og lL jL hy zS
    go_wp2_with (refine(Sd.out _).mono ?_;rintro e w' ⟨rfl,rfl⟩)
    go_roundw
    case rel=>exact⟨k+1,z,by omega,by go_num,by first | rfl | trivial,by omega,HN,by first | rfl | trivial⟩
    case measure=>(simp [intOf]<;>omega)
   ·rw [og] at hp
    rw [og,if_pos rfl,←jL] at hn
    rw [←jL] at zS
    have Sd:=zh hp
    have HN:=zh hn
    clear hp hn hx og lL jL hy
    go_wp2_with (refine(Sd.out _).mono ?_;rintro e w' ⟨rfl,rfl⟩)
    all_goals
     go_roundw
     case rel=>exact⟨k+1,max z y.size,by omega,by go_num,by first | rfl | go_num | (exact qJ (by rw [Int.natCast_max,Int.max_def])),by omega,HN,by first | rfl | trivial⟩
     case measure=>(simp [intOf]<;>omega)
  ·obtain rfl:k=22:=by omega
   have HR:Hid (jV s.data.toList=z):=zh HC.out
   go_wp2
   go_ret
   exact⟨by rw [HR.out];rfl,rfl⟩
def VL (k z:Int) (w:World) (e:Ending) (w':World):Prop:=e=.returned (.tuple #[.int .i64 k,.int .i64 z])∧w=w'
theorem qV {s:ByteArray} (h:0<s.size):s.data.toList=s[0]::s.data.toList.drop 1:=by
 have h1:=byte_at (s:=s) (k:=0) h
 obtain⟨h2,h3⟩:=List.getElem?_eq_some_iff.1 h1
 have:=List.drop_eq_getElem_cons h2
 rw [h3] at this
 exact this
theorem B1 {s:ByteArray} (h:s.size=0):s.data.toList = []:=List.eq_nil_of_length_eq_zero (by rw [aM,h])
theorem NE {s:ByteArray} (h:s.size=0):s.toList.isEmpty=true:=by rw [toList_data,B1 h];rfl
theorem IE {s:ByteArray} (h:0<s.size):s.toList.isEmpty=false:=by rw [toList_data,qV h];rfl
theorem ext_list (s:ByteArray) (a b:Nat):(s.extract a b).data.toList=(s.data.toList.take b).drop a:=by
 rw [ByteArray.data_extract,Array.toList_extract,List.extract_eq_take_drop,List.drop_take]
theorem NM (s:ByteArray) (b:Nat):(s.extract 0 b).data.toList=s.data.toList.take b:=by rw [ext_list];rfl
theorem Bl (s:ByteArray) (p z:Nat):(s.extract p (p+z)).data.toList=(s.data.toList.drop p).take z:=by
 rw [ext_list,←List.take_drop]
theorem Ft (s:ByteArray) (w:World) (hs:s.size≤1000000) (h:cM w):Calls Tryz.prog 71 #[.string s] w (VL (aJ s.data.toList).1 (aJ s.data.toList).2 w):=by
 by_cases h0:s.size=0
 ·have hE:=NE h0
  rw [B1 h0]
  go_enter Tryz.func71,Tryz.ntmps71
  go_wp2_with fail
  go_ret2
  exact⟨rfl,rfl⟩
 ·have hp:0<s.size:=by omega
  have hE:=IE hp
  have HL:=zh (uQ s[0] w)
  have HD:=zh (pQ s[0] w)
  have HF:Hid (aJ s.data.toList=if eT s[0] then (if eV.contains (s.data.toList.take (runN inW s.data.toList)) then 2 else 1,runN inW s.data.toList)
   else if cH s[0] then (3,runN cH s.data.toList) else if 0<jV s.data.toList then (4,jV s.data.toList) else (0,0)):=zh (by
    have:=ch s[0] (s.data.toList.drop 1)
    rw [←qV hp] at this;exact this)
  cases hx:eT s[0]
  ·rw [hx] at HL
   cases hy:cH s[0]
   ·rw [hy] at HD
    have HS:=zh (CW s w h)
    obtain⟨z,hz⟩:∃z,jV s.data.toList=z:=⟨_,rfl⟩
    rw [hz] at HS
    by_cases YT:0<z
    ·have d1:decide ((0:Int)<z)=true:=zd (by omega)
     have uR:decide (0<z)=true:=zd YT
     have HR:Hid (aJ s.data.toList=(4,z)):=zh (by rw [HF.out,hx,hy,hz,if_neg (by simp),if_neg (by simp),if_pos YT])
     clear hx hy hz HF h
     go_enter Tryz.func71,Tryz.ntmps71
     go_wp2_with fail
     refine(HL.out).mono ?_
     rintro e w1 ⟨rfl,rfl⟩
     go_wp2_with fail
     refine(HD.out).mono ?_
     rintro e w1 ⟨rfl,rfl⟩
     go_wp2_with fail
     refine(HS.out).mono ?_
     rintro e w1 ⟨rfl,rfl⟩
     go_wp2_with fail
     go_ret2
     exact⟨by rw [HR.out];rfl,rfl⟩
    ·obtain rfl:z=0:=by omega
     have HR:Hid (aJ s.data.toList=(0,0)):=zh (by rw [HF.out,hx,hy,hz,if_neg (by simp),if_neg (by simp),if_neg (by simp)])
     clear hx hy hz HF h
     go_enter Tryz.func71,Tryz.ntmps71
     go_wp2_with fail
     refine(HL.out).mono ?_
     rintro e w1 ⟨rfl,rfl⟩
     go_wp2_with fail
     refine(HD.out).mono ?_
     rintro e w1 ⟨rfl,rfl⟩
     go_wp2_with fail
     refine(HS.out).mono ?_
     rintro e w1 ⟨rfl,rfl⟩
     go_wp2_with fail
     go_ret2
     exact⟨by rw [HR.out];rfl,rfl⟩
   ·rw [hy] at HD
    have HS:=zh (X8 s w hs)
    have HR:Hid (aJ s.data.toList=(3,runN cH s.data.toList)):=zh (by rw [HF.out,hx,hy,if_neg (by simp),if_pos rfl])
    clear hx hy HF h
    go_enter Tryz.func71,Tryz.ntmps71
    go_wp2_with fail
    refine(HL.out).mono ?_
    rintro e w1 ⟨rfl,rfl⟩
    go_wp2_with fail
    refine(HD.out).mono ?_
    rintro e w1 ⟨rfl,rfl⟩
    go_wp2_with fail
    refine(HS.out).mono ?_
    rintro e w1 ⟨rfl,rfl⟩
    go_wp2_with fail
    go_ret2
    exact⟨by rw [HR.out];rfl,rfl⟩
  ·rw [hx] at HL
   have HS:=zh (Va s w hs)
   obtain⟨z,hz⟩:∃z,runN inW s.data.toList=z:=⟨_,rfl⟩
   have hzs:z≤s.size:=by rw [←hz,←aM];exact pF _ _
   have HK:=zh (Rm (s.extract 0 z) w h)
   rw [NM] at HK
   rw [hz] at HS
   have HR:Hid (aJ s.data.toList=(if eV.contains (s.data.toList.take z) then 2 else 1,z)):=zh (by rw [HF.out,hx,hz,if_pos rfl])
   generalize eV.contains (s.data.toList.take z)=kk at *
   clear hx hz HF h
   cases kk
   ·go_enter Tryz.func71,Tryz.ntmps71
    go_wp2_with fail
    refine(HL.out).mono ?_
    rintro e w1 ⟨rfl,rfl⟩
    go_wp2_with fail
    refine(HS.out).mono ?_
    rintro e w1 ⟨rfl,rfl⟩
    go_wp2_with fail
    refine(HK.out).mono ?_
    rintro e w1 ⟨rfl,rfl⟩
    go_wp2_with fail
    go_ret2
    exact⟨by rw [HR.out];rfl,rfl⟩
   ·go_enter Tryz.func71,Tryz.ntmps71
    go_wp2_with fail
    refine(HL.out).mono ?_
    rintro e w1 ⟨rfl,rfl⟩
    go_wp2_with fail
    refine(HS.out).mono ?_
    rintro e w1 ⟨rfl,rfl⟩
    go_wp2_with fail
    refine(HK.out).mono ?_
    rintro e w1 ⟨rfl,rfl⟩
    go_wp2_with fail
    go_ret2
    exact⟨by rw [HR.out];rfl,rfl⟩
theorem F6 {s:ByteArray} (h:0<s.size):s.data.toList.head? = some s[0]:=by rw [qV h];rfl
theorem EZ (k:Nat) (hk:k≤5) (s:ByteArray) (w:World) (hs:s.size≤1000000):Calls Tryz.prog 72 #[.int .i64 (k:Int),.string s] w (Cp (bg k s.data.toList) w):=by
 have HR:Hid (bg k s.data.toList=if k=0∨k=1∧40<s.size then 20 else if k=3∧(60<s.size∨1<s.size∧s.data.toList.head? = some 48) then 21 else 0):=zh (by unfold bg;rw [aM])
 match k,hk with
 | 0,_=>
   go_enter Tryz.func72,Tryz.ntmps72
   go_wp2
   go_ret
   exact⟨by rw [HR.out];rfl,rfl⟩
 | 1,_=>
   by_cases h1:40<s.size
   ·have d1:decide ((40:Int)<s.size)=true:=zd (by omega)
    have uR:decide (40<s.size)=true:=zd h1
    have HV:Hid (bg 1 s.data.toList=20):=zh (by rw [HR.out,if_pos (.inr ⟨rfl,h1⟩)])
    go_enter Tryz.func72,Tryz.ntmps72
    go_wp2
    go_ret
    exact⟨by rw [HV.out];rfl,rfl⟩
   ·have d1:decide ((40:Int)<s.size)=false:=decide_eq_false (by omega)
    have uR:decide (40<s.size)=false:=decide_eq_false h1
    have HV:Hid (bg 1 s.data.toList=0):=zh (by rw [HR.out,if_neg (by omega),if_neg (by omega)])
    go_enter Tryz.func72,Tryz.ntmps72
    go_wp2
    go_ret
    exact⟨by rw [HV.out];rfl,rfl⟩
 | 2,_=>
   go_enter Tryz.func72,Tryz.ntmps72
   go_wp2
   go_ret
   exact⟨by rw [HR.out];rfl,rfl⟩
 | 3,_=>
   by_cases h1:60<s.size
   ·have d1:decide ((60:Int)<s.size)=true:=zd (by omega)
    have uR:decide (60<s.size)=true:=zd h1
    have HV:Hid (bg 3 s.data.toList=21):=zh (by rw [HR.out,if_neg (by omega),if_pos ⟨rfl,.inl h1⟩])
    go_enter Tryz.func72,Tryz.ntmps72
    go_wp2
    go_ret
    exact⟨by rw [HV.out];rfl,rfl⟩
   ·have d1:decide ((60:Int)<s.size)=false:=decide_eq_false (by omega)
    have uR:decide (60<s.size)=false:=decide_eq_false h1
    by_cases h2:1<s.size
    ·have d2:decide ((1:Int)<s.size)=true:=zd (by omega)
     have d2':decide (1<s.size)=true:=zd h2
     have hp:0<s.size:=by omega
     by_cases h3:s[0]=48
     ·have d3:(((s[0].toNat:Int)) == 48)=true:=by rw [h3];rfl
      have HV:Hid (bg 3 s.data.toList=21):=zh (by rw [HR.out,if_neg (by omega),if_pos ⟨rfl,.inr ⟨h2,by rw [F6 hp,h3]⟩⟩])
      clear h3
      go_enter Tryz.func72,Tryz.ntmps72
      go_wp2
      go_ret
      exact⟨by rw [HV.out];rfl,rfl⟩
     ·have d3:(((s[0].toNat:Int)) == 48)=false:=Sz 48 rfl h3
      have HV:Hid (bg 3 s.data.toList=0):=zh (by rw [HR.out,if_neg (by omega),if_neg (fun h=>by
       rcases h.2 with h | h
       ·exact h1 h
       ·rw [F6 hp] at h;exact h3 (Option.some.inj h.2))])
      clear h3
      go_enter Tryz.func72,Tryz.ntmps72
      go_wp2
      go_ret
      exact⟨by rw [HV.out];rfl,rfl⟩
    ·have d2:decide ((1:Int)<s.size)=false:=decide_eq_false (by omega)
     have d2':decide (1<s.size)=false:=decide_eq_false h2
     have HV:Hid (bg 3 s.data.toList=0):=zh (by rw [HR.out,if_neg (by omega),if_neg (by omega)])
     go_enter Tryz.func72,Tryz.ntmps72
     go_wp2
     go_ret
     exact⟨by rw [HV.out];rfl,rfl⟩
 | 4,_=>
   go_enter Tryz.func72,Tryz.ntmps72
   go_wp2
   go_ret
   exact⟨by rw [HR.out];rfl,rfl⟩
 | 5,_=>
   go_enter Tryz.func72,Tryz.ntmps72
   go_wp2
   go_ret
   exact⟨by rw [HR.out];rfl,rfl⟩
def aaQ (v:Int) (w:World) (e:Ending) (w':World):Prop:=e=.returned (.int .i64 v)∧w.grownBy w' none
def uW (v:List UInt8) (w:World) (e:Ending) (w':World):Prop:=(∃r:ByteArray,e=.returned (.string r)∧r.data.toList=v)∧w.grownBy w' none
theorem tD (p:UInt8→Bool):∀l:List UInt8,l.dropWhile p=l.drop (runN p l)
 | []=>rfl
 | a::r=>by
   unfold runN
   cases h:p a
   ·rw [List.dropWhile_cons_of_neg (by simp [h])];rfl
   ·rw [List.dropWhile_cons_of_pos h,tD p r];rfl
theorem Pe (l:List UInt8):Lib.trimLeftS l [32,9,13,10]=l.drop (runN jY l):=by
 rw [←tD]
 unfold Lib.trimLeftS
 congr 1
 funext b
 simp only [List.contains_cons,jY,List.contains_nil,Bool.or_false,Bool.or_assoc]
theorem xU:∀l:List UInt8,sk false l=runN jY l+sk false (l.drop (runN jY l))
 | []=>rfl
 | a::r=>by
   unfold runN
   cases h:jY a
   ·simp
   ·have:=xU r
    simp only [sk,h,if_true,List.drop_succ_cons]
    omega
theorem Rh (l:List UInt8):∀b,(l.drop (runN jY l)).head? = some b→jY b=false:=by
 induction l with
 | nil=>intro b h;simp [runN] at h
 | cons a r ih=>
   intro b h
   unfold runN at h
   cases ha:jY a
   ·rw [ha] at h;simp at h;subst h;exact ha
   ·rw [ha] at h;exact ih b (by simpa using h)
theorem EV {l:List UInt8} (h1:∀b,l.head? = some b→jY b=false) (h2:List.isPrefixOf [45,45] l=false):sk false l=0:=by
 cases l with
 | nil=>rfl
 | cons a r=>
   have h3:=h1 a rfl
   simp only [sk,h3]
   rw [if_neg (by simp),if_neg]
   rintro⟨rfl,hr⟩
   cases r with
   | nil=>cases hr
   | cons b r=>simp at hr;subst hr;simp [List.isPrefixOf] at h2
def nlN (l:List UInt8):Nat:=runN (fun b=>b != 10) l
theorem Ga:∀l:List UInt8,sk true l=min (nlN l+1) l.length+sk false (l.drop (nlN l+1))
 | []=>by simp [sk]
 | a::r=>by
   by_cases h:a=10
   ·subst h
    have:nlN (10::r)=0:=rfl
    rw [this];simp [sk];omega
   ·have hb:(a != 10)=true:=by simpa using h
    have e:nlN (a::r)=nlN r+1:=by unfold nlN;simp only [runN,hb];rfl
    have ih:=Ga r
    rw [e];simp only [sk,if_neg h,List.drop_succ_cons,List.length_cons]
    omega
theorem G8 {l:List UInt8} (h:List.isPrefixOf [45,45] l=true):sk false l=min (nlN l+1) l.length+sk false (l.drop (nlN l+1))∧0<l.length:=by
 match l,h with
 | [],h=>simp [List.isPrefixOf] at h
 | [a],h=>simp [List.isPrefixOf] at h
 | a::b::r,h=>
   simp [List.isPrefixOf] at h
   obtain⟨rfl,rfl⟩:=h
   have e:sk false (45::45::r)=sk true (45::45::r):=by
    simp [sk,jY]
   rw [e]
   exact⟨Ga _,by simp⟩
theorem MI {l:List UInt8} (h:Lib.indexByte l 10 = -1):nlN l=l.length:=by
 refine mQ _ (Nat.le_refl _) (fun j b _ hb=>?_) (fun b hb=>?_)
 ·have h1:=Lib.indexByte_none h j
  rw [hb] at h1
  simpa using fun e=>h1 (by rw [e])
 ·rw [List.getElem?_eq_none (Nat.le_refl _)] at hb;cases hb
theorem MJ {l:List UInt8} {o:Nat} (h:Lib.indexByte l 10=o):nlN l=o∧o<l.length:=by
 obtain⟨h1,h2⟩:=Lib.indexByte_some h
 have ho:=(List.getElem?_eq_some_iff.1 h1).1
 refine⟨mQ _ (by omega) (fun j b hj hb=>?_) (fun b hb=>?_),ho⟩
 ·have h3:=h2 j hj
  rw [hb] at h3
  simpa using fun e=>h3 (by rw [e])
 ·rw [h1] at hb;injection hb with hb;subst hb;rfl
theorem zv (s:ByteArray) (a n:Nat) (h:s.size=n):(s.extract a n).data.toList=s.data.toList.drop a:=by
 rw [ext_list,List.take_of_length_le (by rw [aM];omega)]
def S7 (l:List UInt8) (w:World) (e:Ending) (w':World):Prop:=(∃(x y:ByteArray) (b:Bool),e=.returned (.tuple #[.string x,.string y,.bool b])∧y.data.toList=l.drop (nlN l+1))∧w.grownBy w' none
theorem Rs (s:ByteArray) (w:World) (hs:s.size≤1000000):Calls Tryz.prog 140 #[.string s,.string ⟨#[10]⟩] w (S7 s.data.toList w):=by
 obtain⟨n,hn⟩:∃n,s.size=n:=⟨_,rfl⟩
 have HN:=zh hn
 rw [hn] at hs
 have hL:s.data.toList.length=n:=by rw [←hn];exact Array.length_toList
 have hx:=Tryz.stringslite_Index_one s 10 w
 by_cases h:Lib.indexByte s.data.toList 10 = -1
 ·rw [h] at hx
  have HX:=zh hx
  have HR:=zh (MI h)
  have HL:=zh hL
  clear hx h hL
  go_enter Tryz.func140,Tryz.ntmps140
  go_wp2_with fail
  refine HX.out.mono ?_
  rintro e w' ⟨rfl,rfl⟩
  clear HX
  go_wp2_with fail
  go_ret3
  exact⟨⟨_,_,_,rfl,by rw [HR.out,List.drop_of_length_le (by omega)]⟩,ad _ _⟩
 ·have Da:=Lib.indexByte_ge s.data.toList 10
  obtain⟨o,he⟩:∃o:Nat,Lib.indexByte s.data.toList 10=o:=⟨(Lib.indexByte s.data.toList 10).toNat,by omega⟩
  rw [he] at hx
  have HX:=zh hx
  obtain⟨hr,hon⟩:=MJ he
  have HR:=zh hr
  rw [hL] at hon
  have rC:IntKind.i64.wrap ((o:Int)+1)=(o:Int)+1:=IntWalk.i64_in _ (by omega)
  have HE:Hid ((s.extract (o+1) n).data.toList=s.data.toList.drop (o+1)):=zh (zv s _ n HN.out)
  clear hx h hL Da he hr
  go_enter Tryz.func140,Tryz.ntmps140
  go_wp2_with fail
  refine HX.out.mono ?_
  rintro e w' ⟨rfl,rfl⟩
  clear HX
  go_wp2_with fail
  go_quiet (fail)
  go_wp2_with fail
  go_ret3
  exact⟨⟨_,_,_,rfl,by rw [HR.out];exact HE.out⟩,ap (ad _ _) _⟩
theorem UG (s:ByteArray) (w:World) (hs:s.size≤1000000):Calls Tryz.prog 109 #[.string s,.string ⟨#[10]⟩] w (S7 s.data.toList w):=by
 have H:=zh (Rs s w hs)
 clear hs
 go_enter Tryz.func109,Tryz.ntmps109
 go_wp2_with fail
 refine H.out.mono ?_
 rintro e w' ⟨⟨x,y,b,rfl,hy⟩,hg⟩
 have HG:=zh hg;have HY:=zh hy
 clear hg hy
 go_wp2_with fail
 go_ret3
 exact⟨⟨x,y,b,rfl,HY.out⟩,HG.out⟩
theorem zr (s:ByteArray) (w:World):Calls Tryz.prog 107 #[.string s,.string ⟨#[32,9,13,10]⟩] w (uW (s.data.toList.drop (runN jY s.data.toList)) w):=by
 refine(Any.strings_TrimLeft_laid Tryz.lays161 (by kernel_rfl) s ⟨#[32,9,13,10]⟩ w (by decide) (ascii_of_all (by decide))).mono ?_
 rintro e w' ⟨rfl,hb⟩
 exact⟨⟨_,rfl,by rw [←Pe]⟩,bz hb⟩
theorem Dc (s:ByteArray) (w:World) (hs:s.size≤1000000):Calls Tryz.prog 70 #[.string s] w (aaQ (sk false s.data.toList) w):=by
 obtain⟨n,hn⟩:∃n,s.size=n:=⟨_,rfl⟩
 have HN:=zh hn
 rw [hn] at hs
 go_enter Tryz.func70,Tryz.ntmps70
 go_wp2_with fail
 go_loopw [3] (fun r wr=>∃(p:Nat) (t:ByteArray),p≤n∧r=.string t∧t.size=n - p∧Hid (t.data.toList=s.data.toList.drop p∧sk false s.data.toList=p+sk false (s.data.toList.drop p))∧Hid (w.grownBy wr none)) (fun r _=>Lib.strSize r)
 case atStart=>exact⟨0,s,Nat.zero_le _,rfl,by omega,zh ⟨rfl,by simp⟩,ad _ _⟩
 case round=>
  obtain⟨p,t,hp,rfl,hts,HT,HG⟩:=hrel
  have HTS:=zh hts
  clear hts
  go_wp2_with fail
  refine(zr t wr).mono ?_
  rintro e w1 ⟨⟨t1,rfl,h1⟩,bI⟩
  have cZ:=zh (aa HG.out bI)
  have hL:s.data.toList.length=n:=by rw [aM,HN.out]
  have hq:∃q,runN jY (s.data.toList.drop p)=q∧p+q≤n:=⟨_,rfl,by have:=pF jY (s.data.toList.drop p);rw [List.length_drop] at this;omega⟩
  obtain⟨q,hq,hqn⟩:=hq
  have hb:=xU (s.data.toList.drop p)
  have si:=Rh (s.data.toList.drop p)
  rw [HT.out.1,hq,List.drop_drop] at h1
  rw [hq,List.drop_drop] at hb si
  have hsk:sk false s.data.toList=p+q+sk false (s.data.toList.drop (p+q)):=by rw [HT.out.2,hb];omega
  have Ct:t1.size=n - (p+q):=by rw [←aM,h1,List.length_drop,hL]
  have HP:=zh (Tryz.strings_HasPrefix t1 ⟨#[45,45]⟩ w1)
  rw [nJ,h1] at HP
  change Hid (Calls _ _ _ _ fun e w'=>e=.returned (.bool (List.isPrefixOf [45,45] (s.data.toList.drop (p+q))))∧w'=w1) at HP
  cases og:List.isPrefixOf [45,45] (s.data.toList.drop (p+q))
  ·rw [og] at HP
   have HR:Hid (sk false s.data.toList=p+q):=zh (by rw [hsk,EV si og];rfl)
   have lI:=zh Ct
   clear h1 hb si hsk og bI hq hL HT Ct
   go_wp2_with fail
   refine HP.out.mono ?_
   rintro e w2 ⟨rfl,rfl⟩
   clear HP
   have hz:t1.size≤n:=by have:=lI.out;omega
   go_wp2_with fail
   go_ret
   exact⟨R4 (by rw [HR.out];have:=lI.out;omega),cZ.out⟩
  ·rw [og] at HP
   have HCU:=zh (UG t1 w1 (by omega))
   obtain⟨vw,tP⟩:=G8 og
   rw [h1] at HCU
   rw [List.drop_drop] at vw
   rw [List.length_drop,hL] at vw tP
   obtain⟨m,hm⟩:∃m,nlN (s.data.toList.drop (p+q))=m:=⟨_,rfl⟩
   rw [hm] at vw
   have HM:=zh hm
   have HR:=zh hsk;have Gv:=zh vw;have ky:=zh hL;have lI:=zh Ct
   clear h1 hb si hsk og bI hq hL hm vw HT Ct
   go_wp2_with fail
   refine HP.out.mono ?_
   rintro e w2 ⟨rfl,rfl⟩
   clear HP
   go_wp2_with fail
   refine HCU.out.mono ?_
   rintro e w3 ⟨⟨x,y,b,rfl,hy⟩,hg⟩
   rw [HM.out,List.drop_drop] at hy
   have eg:=zh (aa cZ.out hg)
   have jL:y.size=n - (p+q+(m+1)):=by rw [←aM,hy,List.length_drop,ky.out]
   have HY:=zh hy;have Wm:=zh jL
   clear HCU hg hy jL
   go_wp2_with fail
   go_roundw
   case rel=>
    by_cases sM:p+q+(m+1)≤n
    ·exact⟨p+q+(m+1),y,sM,rfl,Wm.out,zh ⟨HY.out,by rw [HR.out,Gv.out,Nat.min_eq_left (by omega)];omega⟩,eg⟩
    ·refine⟨n,y,Nat.le_refl _,rfl,by rw [Wm.out];omega,zh ⟨?_,?_⟩,eg⟩
     ·rw [HY.out,List.drop_of_length_le (by rw [ky.out];omega),List.drop_of_length_le (by rw [ky.out];omega)]
     ·rw [HR.out,Gv.out,Nat.min_eq_right (by omega),List.drop_of_length_le (l:=s.data.toList) (i:=p+q+(m+1)) (by rw [ky.out];omega),List.drop_of_length_le (l:=s.data.toList) (i:=n) (by rw [ky.out];omega)]
      simp [sk];omega
   case measure=>
    rw [Lib.strSize_string,Lib.strSize_string,Wm.out,HTS.out]
    omega
def nf (t:Tok):List Value:=[.int .i64 (t.kind:Int),aw t.lead,aw t.text,.int .i64 (t.pos:Int)]
def gl (l:List Tok):List Value:=l.flatMap nf
theorem Co (p:Tok) (l:List Tok):gl (p::l)=.int .i64 (p.kind:Int)::aw p.lead::aw p.text::.int .i64 (p.pos:Int)::gl l:=rfl
theorem vy (l r:List Tok):gl (l++r)=gl l++gl r:=by unfold gl;rw [List.flatMap_append]
theorem Df (l:List Tok) (j:Nat) (p:Tok) (h:l[j]? = some p):(gl l)[j*4]? = some (.int .i64 (p.kind:Int))∧(gl l)[j*4+1]? = some (aw p.lead)∧(gl l)[j*4+2]? = some (aw p.text)∧(gl l)[j*4+3]? = some (.int .i64 (p.pos:Int)):=by
 induction l generalizing j with
 | nil=>simp at h
 | cons q l ih=>
   rw [Co]
   match j,h with
   | 0,h=>simp at h;subst h;exact⟨rfl,rfl,rfl,rfl⟩
   | j+1,h=>
     have:=ih j (by simpa using h)
     rw [show(j+1)*4=j*4+1+1+1+1 by omega]
     simpa using this
def TAt (w:World) (p:Option Addr) (l:List Tok):Prop:=
 l = []∨∃g off,p=some ⟨g,off,none⟩∧g<w.heap.size∧∀j q,l[j]? = some q→w.cell? ⟨g,off+j*4,none⟩=some (.int .i64 (q.kind:Int))∧w.cell? ⟨g,off+j*4+1,none⟩=some (aw q.lead)∧w.cell? ⟨g,off+j*4+2,none⟩=some (aw q.text)∧w.cell? ⟨g,off+j*4+3,none⟩=some (.int .i64 (q.pos:Int))
theorem TAt.kept {w w':World} {p:Option Addr} {l:List Tok} (h:TAt w p l) (hg:w.grownBy w' none):TAt w' p l:=by
 rcases h with h | ⟨g,off,rfl,hl,hc⟩
 ·exact .inl h
 ·exact .inr ⟨g,off,rfl,zn hl hg.size,fun j q hj=>⟨hg.cell (hc j q hj).1 (by simp),hg.cell (hc j q hj).2.1 (by simp),hg.cell (hc j q hj).2.2.1 (by simp),hg.cell (hc j q hj).2.2.2 (by simp)⟩⟩
def nU (T:TypeId) (w:World) (base:Nat) (v:Value) (l:List Tok):Prop:=w.ownsRow base T 4 v l.length (gl l)
theorem nU.nil (T:TypeId) (w:World) (base:Nat):nU T w base (.slice none 0 0) []:=World.ownsRow_nil _ _ _ _
theorem nU.kept {T:TypeId} {w w':World} {base:Nat} {v:Value} {l:List Tok} (h:nU T w base v l) (hg:w.grownBy w' none):nU T w' base v l:=World.ownsRow.kept h hg (by
 cases hv:v.ownBlock with
 | none=>exact .inl rfl
 | some k=>exact .inr (by simp))
theorem nU.is {T:TypeId} {w:World} {base:Nat} {v:Value} {l:List Tok} (h:nU T w base v l):∃p c,v=.slice p l.length c∧TAt w p l∧l.length≤c∧c≤maxLen∧(l≠[]→∀a,p=some a→base≤a.block):=by
 rcases h.2 with ⟨rfl,h0⟩ | ⟨g,cap,fp,rfl,hb,hg,BC,wk,h1,h2⟩
 ·have:l = []:=List.eq_nil_of_length_eq_zero h0
  subst this
  exact⟨none,0,rfl,.inl rfl,Nat.le_refl _,by unfold maxLen;omega,fun h=>absurd rfl h⟩
 ·refine⟨_,cap,rfl,.inr ⟨g,0,rfl,hlt hg,fun j q hj=>?_⟩,BC,wk,fun _ a ha=>by injection ha with ha;subst ha;exact hb⟩
  obtain⟨g1,g2,g3,g4⟩:=Df l j q hj
  have Ta:j<l.length:=(List.getElem?_eq_some_iff.1 hj).1
  have h':w.ownsRow base T 4 (.slice (some ⟨g,0,none⟩) l.length cap) l.length (gl l):=h
  rw [Nat.zero_add]
  exact⟨by rw [h'.cellAt _ (by omega)];exact g1,by rw [h'.cellAt _ (by omega)];exact g2,by rw [h'.cellAt _ (by omega)];exact g3,by rw [h'.cellAt _ (by omega)];exact g4⟩
theorem mE {t T:TypeId} {z:Value} {by':Nat} (ht:Tryz.prog.underlying t=some (.slice T)) (hT:(Tryz.prog.info? T).map (fun i=>(i.zero,i.size,i.bytes))=some (some z,4,by')) (hz:z.cells.size=4) (hby:by'≤64)
  {w0:World} {ops:Array Oper} {rest:List Oper} {o:Oper} {a:Act} {Q:Exit→Act→World→Prop} (eO:o.guard=none) (s x:Operand) (ho:o.op=.call { callee:=.builtin .append,args:=#[s,x],argTypes:=#[t,t] })
  (base:Nat) (l:List Tok) (y:Tok) (y1 y2 y3 y4:Value) (hy:nf y = [y1,y2,y3,y4]) (v:Value) (hs:a.eval s=v) (ey:nU T w0 base v l) (H:Nat) (hH:w0.heap.size=H) (hx:a.eval x=.slice (some ⟨H,0,none⟩) 1 1) (hn:l.length≤1000000) (gq:base≤w0.heap.size)
  (K:∀g' bH w',nU T w' base (.slice (some ⟨g',0,none⟩) (l.length+1) bH) (l++[y])→Below base w0 w'→wpList Tryz.prog ops Q rest (a.put o.dst (.slice (some ⟨g',0,none⟩) (l.length+1) bH)) w'):
  wpList Tryz.prog ops Q (o::rest) a (w0.alloc (.cells #[y1,y2,y3,y4] T)):=by
 subst hH
 obtain⟨i0,hi,JF,Ha,D5⟩:=info_parts hT
 have h1a:=World.ownsRow.alloc ey (.cells #[y1,y2,y3,y4] T)
 have hb:(l.length+1)*by'≤140737488355328:=by
  have:(l.length+1)*by'≤(l.length+1)*64:=Nat.mul_le_mul_left _ hby
  omega
 unfold nf at hy
 simp only [List.cons.injEq,and_true] at hy
 obtain⟨rfl,rfl,rfl,rfl⟩:=hy
 refine wpList_append_lies (P:=Tryz.prog) _ eO s x t ho base T i0 z 4 by' ht hi JF Ha D5 hz (by decide) _ l.length (gl l) hs h1a ⟨w0.heap.size,0,none⟩ 1 1 (nf y) hx rfl ?_ ?_ (by omega) (by unfold maxLen;omega) hb (by simp;omega) (w0.heap.size+1) (by simp) ?_
 ·intro j u hj
  rw [Addr.add_lit,cell_of_row _ w0.heap.size _ _ _ (0,0) (heap_alloc_new w0 _)]
  unfold nf at hj
  match j,hj with
  | 0,hj=>simp at hj;subst hj;rfl
  | 1,hj=>simp at hj;subst hj;rfl
  | 2,hj=>simp at hj;subst hj;rfl
  | 3,hj=>simp at hj;subst hj;rfl
 ·intro u hu
  unfold nf at hu
  simp at hu;rcases hu with rfl | rfl | rfl | rfl<;>rfl
 ·intro g' bH w' h3 h4 h5 _
  exact K g' bH w' (by simpa [nU,vy,gl] using h3) (Below.trans2 (Below.gb (World.grownBy_alloc w0 _ none) gq) (xC h1a (by simp;omega) h4))
theorem TAt.setBox {w:World} {p:Option Addr} {l:List Tok} {b:Nat} (h:TAt w p l) (hb:l≠[]→∀a,p=some a→b<a.block) (j:Nat) (u:Value):TAt (w.setCell ⟨b,j,none⟩ u) p l:=by
 rcases h with h | ⟨g,off,rfl,hl,hc⟩
 ·exact .inl h
 ·by_cases h0:l = []
  ·exact .inl h0
  ·have NC:b<g:=hb h0 ⟨g,off,none⟩ rfl
   have keep:∀o,(w.setCell ⟨b,j,none⟩ u).cell? ⟨g,o,none⟩=w.cell? ⟨g,o,none⟩:=fun o=>
    World.cell?_of_block (w:=w) (Below.heap_setCell _ _ _ _ (by simp;omega))
   exact .inr ⟨g,off,rfl,by simpa [World.setCell] using hl,fun i q hi=>by rw [keep,keep,keep,keep];exact hc i q hi⟩
theorem ah {w:World} {r:Nat} {u v:Value} {T:TypeId} (h:w.heap[r]? = some (.cells #[u,v] T (0,0))):w.cell? ⟨r,0,none⟩=some u∧w.cell? ⟨r,1,none⟩=some v∧∀o,w.frozen? ⟨r,o,none⟩=false:=
 ⟨by rw [cell_of_row w r 0 _ T (0,0) h];rfl,by rw [cell_of_row w r 1 _ T (0,0) h];rfl,fun o=>by simp [World.frozen?,h]⟩
theorem JR:(Tryz.prog.info? 105).map (fun i=>(i.zero,i.size,i.bytes))=some (some (.agg #[.int .i64 0,.string ⟨#[]⟩,.string ⟨#[]⟩,.int .i64 0]),4,48):=by kernel_rfl
end Go.Proofs.YtjbgnopnehgbaaaGreatDoor
