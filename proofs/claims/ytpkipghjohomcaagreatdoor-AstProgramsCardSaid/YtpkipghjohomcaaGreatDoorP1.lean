/- Lemmas. -/
import Derived.Lib.JoinLaws
import Derived.Shelf.Strings.SlTrimAscii
import Derived.Test.YtpkipghjohomcaaGreatDoorP0
set_option linter.unusedVariables false
set_option linter.unusedSimpArgs false
set_option maxHeartbeats 4000000
set_option maxRecDepth 100000
namespace Go.Proofs.YtpkipghjohomcaaGreatDoor
open Go.RowKit List Nat
def aD (x:List UInt8):Value:=.string ⟨x.toArray⟩
theorem acl:Tryz.prog.globalNamed "touchstone/lex.keys" = some 1:=by kernel_rfl
theorem WH:Tryz.prog.globalNamed "touchstone/lex.signs" = some 2:=by kernel_rfl
def fJ (w:World):Prop:=(∀m A,(fY.map aD)[m]? = some A->w.cell? ⟨1,m,none⟩=some A)/\(∀m A,(iP.map aD)[m]? = some A->w.cell? ⟨2,m,none⟩=some A)
theorem fJ.kept {w G:World} (h:fJ w) (E:w.grownBy G none):fJ G:=
 ⟨fun A B m=>E.cell (h.1 A B m) (by simp),fun A B m=>E.cell (h.2 A B m) (by simp)⟩
theorem JS {t:TypeId} {n:Nat} (B:Tryz.prog.underlying t=some (.array n 9)) (A:Array Value) (k:Nat) (v:Value) (m:k<n) (E:A[k]? = some v) (w:World):
  (Instr.index t (.agg A) (.int .i64 (k:Int))).run Tryz.prog w=.ok v w:=by
 simp [Instr.index,run_underlying B,asIntOf,m,part,Tryz.sizeOf9,Tryz.isAgg9,go_sem,E]
theorem toList_data (s:ByteArray):s.toList=s.data.toList:=Lib.toList_data s
def Cg (A:Value) (L:List (List UInt8)):Prop:=A=.agg (L.map aD).toArray
theorem Cg.run {A:Value} {L:List (List UInt8)} (h:Cg A L) {t:TypeId} {n:Nat} (B:Tryz.prog.underlying t=some (.array n 9)) (E:L.length=n) {k:Nat} {x:List UInt8} (m:L[k]? = some x) (w:World):
  (Instr.index t A (.int .i64 (k:Int))).run Tryz.prog w=.ok (.string ⟨x.toArray⟩) w:=by
 rw [h]
 refine JS B _ k _ ?_ ?_ w
 ·have:=(Q4.1 m).1;omega
 ·simp [m,aD]
theorem xZ {L:List (List UInt8)} {k:Nat} {x s:List UInt8} (h:L.contains s=(L.drop k).contains s) (G:L[k]? = some x) (A:x≠s):L.contains s=(L.drop (k+1)).contains s:=by
 have m:L.drop k=x::L.drop (k+1):=by
  obtain⟨E,rfl⟩:=Q4.1 G
  exact drop_eq_getElem_cons E
 have B:(s == x)=false:=by simpa using fun m=>A m.symm
 rw [h,m,contains_cons,B,Bool.false_or]
theorem ZU:(Tryz.prog.info? 194).map (·.size)=some (fY.map aD).length:=by kernel_rfl
theorem abZ:(Tryz.prog.info? 195).map (·.size)=some (iP.map aD).length:=by kernel_rfl
theorem Sg (s:ByteArray) (w:World) (h:fJ w):Calls Tryz.prog 110 #[.string s] w (wW (fY.contains s.data.toList) w):=by
 obtain⟨U,-⟩:=h
 have Y:w.rangeAt 1 0 (fY.map aD):=fun ak ao hj=>by rw [Nat.zero_add];exact U ak ao hj
 have pP:=zh Y
 clear Y
 clear U
 have Z:Hid (fY.contains s.data.toList=(fY.drop 0).contains s.data.toList):=zh rfl
 have R:=zh (toList_data s)
 go_enter Tryz.func110,Tryz.ntmps110
 go_wp2_with (refine wpList_load_mid rfl 194 _ rfl 1 0 rfl (fY.map aD) _ pP Tryz.underlying194 rfl ZU ?_)
 have HA:Hid (Cg (.agg (fY.map aD).toArray) fY):=zh rfl
 generalize Value.agg (fY.map aD).toArray=ap at *
 go_wp2
 go_loopw [6] (fun L wr=>∃m:Nat,m<=15/\L=.int .i64 m/\Hid (fY.contains s.data.toList=(fY.drop m).contains s.data.toList)/\wr=w) (fun L _=>15 - (intOf L).toNat)
 case atStart=>exact⟨0,zero_le _,rfl,Z,rfl⟩
 case round=>
  clear Z
  obtain⟨m,hk,rfl,O,rfl⟩:=hrel
  by_cases hlt:m<15
  ·have d1:=zE ((m:Int)<15)
   have ml:decide (m<15)=true:=zd hlt
   obtain⟨G,E⟩:∃G,fY[m]? = some G:=⟨fY[m]'hlt,QS _⟩
   have ri:=HA.run (t:=194) (n:=15) Tryz.underlying194 rfl E
   obtain⟨H,I⟩:∃H:ByteArray,(⟨G.toArray⟩:ByteArray)=H:=⟨_,rfl⟩
   have J:H.toList=G:=by rw [toList_data,<-I]
   rw [I] at ri
   by_cases A:G=s.data.toList
   ·have d2:(H.toList == s.toList)=true:=by rw [J,R.out,A];simp
    have B:Hid (fY.contains s.data.toList=true):=zh (by rw [<-A];simpa using gn E)
    clear E A J I
    go_wp2
    go_ret
    exact⟨by rw [B.out];rfl,rfl⟩
   ·have d2:(H.toList == s.toList)=false:=by rw [J,R.out];simpa using A
    have B:=zh (xZ O E A)
    clear E A J I
    go_wp2
    go_roundw
    case rel=>exact⟨m+1,by omega,by go_num,B,by first | rfl | trivial⟩
    case measure=>(simp [intOf]<;>omega)
  ·obtain rfl:m=15:=by omega
   have B:Hid (fY.contains s.data.toList=false):=zh O.out
   go_wp2
   go_ret
   exact⟨by rw [B.out];rfl,rfl⟩
theorem pm (l p:List UInt8):Lib.hasPrefix l p=p.isPrefixOf l:=rfl
theorem RL {L:List (List UInt8)} {k:Nat} {x l:List UInt8} (m:L[k]? = some x):fm (L.take (k+1)) l 0=if x.isPrefixOf l then max (fm (L.take k) l 0) x.length else fm (L.take k) l 0:=by
 rw [take_add_one,m];exact Tu _ _ _ _
theorem EM (s:ByteArray) (w:World) (h:fJ w):Calls Tryz.prog 112 #[.string s] w (D4 (nV s.data.toList) w):=by
 obtain⟨-,h0⟩:=h
 have hr:w.rangeAt 2 0 (iP.map aD):=fun ap av hj=>by rw [Nat.zero_add];exact h0 ap av hj
 have pP:=zh hr
 clear hr
 clear h0
 have HP:=zh (fun au W=>Tryz.strings_HasPrefix s au W)
 go_enter Tryz.func112,Tryz.ntmps112
 go_wp2_with (refine wpList_load_mid rfl 195 _ rfl 2 0 rfl (iP.map aD) _ pP Tryz.underlying195 rfl abZ ?_)
 have HA:Hid (Cg (.agg (iP.map aD).toArray) iP):=zh rfl
 generalize Value.agg (iP.map aD).toArray=ax at *
 go_wp2
 go_loopw [3,7] (fun aq Z wr=>∃(m G:Nat),m<=22/\Z=.int .i64 m/\aq=.int .i64 G/\G<=2/\Hid (fm (iP.take m) s.data.toList 0=G)/\wr=w) (fun _ Z _=>22 - (intOf Z).toNat)
 case atStart=>exact⟨0,0,zero_le _,rfl,rfl,by omega,zh rfl,rfl⟩
 case round=>
  obtain⟨m,G,hk,rfl,rfl,hz,HC,rfl⟩:=hrel
  by_cases hlt:m<22
  ·have d1:=zE ((m:Int)<22)
   have ml:decide (m<22)=true:=zd hlt
   obtain⟨A,J⟩:∃A,iP[m]? = some A:=⟨iP[m]'hlt,QS _⟩
   have ri:=HA.run (t:=195) (n:=22) Tryz.underlying195 rfl J
   have rQ:A.length<=2:=(show ∀ao∈iP,ao.length<=2 by decide) A (gn J)
   have B:=RL (l:=s.data.toList) J
   rw [HC.out] at B
   obtain⟨I,L⟩:∃I:ByteArray,(⟨A.toArray⟩:ByteArray)=I:=⟨_,rfl⟩
   have R:I.data.toList=A:=by rw [<-L]
   have O:I.size=A.length:=by rw [<-aQ,R]
   rw [L] at ri
   have E:=HP I
   rw [pm,R] at E
   cases H:A.isPrefixOf s.data.toList
   ·rw [H] at E
    rw [H,if_neg (by simp)] at B
    have Y:=zh E
    have U:=zh B
    clear E B J H R O L rQ
    go_wp2_with (refine(Y _).mono ?_;rintro ak w' ⟨rfl,rfl⟩)
    go_roundw
    case rel=>exact⟨m+1,G,by omega,by go_num,by first | rfl | trivial,by omega,U,by first | rfl | trivial⟩
    case measure=>(simp [intOf]<;>omega)
   ·rw [H] at E
    rw [H,if_pos rfl,<-O] at B
    rw [<-O] at rQ
    have Y:=zh E
    have U:=zh B
    clear E B J H R O L
    go_wp2_with (refine(Y _).mono ?_;rintro ak w' ⟨rfl,rfl⟩)
    all_goals
     go_roundw
     case rel=>exact⟨m+1,max G I.size,by omega,by go_num,by first | rfl | go_num | (exact sS (by rw [Int.natCast_max,Int.max_def])),by omega,U,by first | rfl | trivial⟩
     case measure=>(simp [intOf]<;>omega)
  ·obtain rfl:m=22:=by omega
   have HR:Hid (nV s.data.toList=G):=zh HC.out
   go_wp2
   go_ret
   exact⟨by rw [HR.out];rfl,rfl⟩
open Go.RowKit List
def Wh (k z:Int) (w:World) (e:Ending) (m:World):Prop:=e=.returned (.tuple #[.int .i64 k,.int .i64 z])/\w=m
theorem ti {s:ByteArray} (h:0<s.size):s.data.toList=s[0]::s.data.toList.drop 1:=by
 have m:=byte_at (s:=s) (k:=0) h
 obtain⟨A,B⟩:=Q4.1 m
 have:=drop_eq_getElem_cons A
 rw [B] at this
 exact this
theorem DJ {s:ByteArray} (h:s.size=0):s.data.toList = []:=fb (by rw [aQ,h])
theorem OZ {s:ByteArray} (h:s.size=0):s.toList.isEmpty=true:=by rw [toList_data,DJ h];rfl
theorem J9 {s:ByteArray} (h:0<s.size):s.toList.isEmpty=false:=by rw [toList_data,ti h];rfl
theorem ext_list (s:ByteArray) (a b:Nat):(s.extract a b).data.toList=(s.data.toList.take b).drop a:=by
 rw [ByteArray.data_extract,Array.toList_extract,extract_eq_take_drop,drop_take]
theorem Pi (s:ByteArray) (b:Nat):(s.extract 0 b).data.toList=s.data.toList.take b:=by rw [ext_list];rfl
theorem Da (s:ByteArray) (p z:Nat):(s.extract p (p+z)).data.toList=(s.data.toList.drop p).take z:=by
 rw [ext_list,<-take_drop]
theorem Sk (s:ByteArray) (w:World) (hs:s.size<=1000000) (h:fJ w):Calls Tryz.prog 71 #[.string s] w (Wh (cy s.data.toList).1 (cy s.data.toList).2 w):=by
 by_cases Z:s.size=0
 ·have hE:=OZ Z
  rw [DJ Z]
  go_enter Tryz.func71,Tryz.ntmps71
  go_wp2_with fail
  go_ret2
  exact⟨rfl,rfl⟩
 ·have hp:0<s.size:=by omega
  have hE:=J9 hp
  have O:=zh (wL s[0] w)
  have R:=zh (rY s[0] w)
  have I:Hid (cy s.data.toList=if nr s[0] then (if fY.contains (s.data.toList.take (runN inW s.data.toList)) then 2 else 1,runN inW s.data.toList)
   else if fy s[0] then (3,runN fy s.data.toList) else if 0<nV s.data.toList then (4,nV s.data.toList) else (0,0)):=zh (by
    have:=gY s[0] (s.data.toList.drop 1)
    rw [<-ti hp] at this;exact this)
  cases E:nr s[0]
  ·rw [E] at O
   cases L:fy s[0]
   ·rw [L] at R
    have H:=zh (EM s w h)
    obtain⟨B,G⟩:=zx (nV s.data.toList)
    rw [G] at H
    by_cases Y:0<B
    ·have d1:=zE ((0:Int)<B)
     have ml:decide (0<B)=true:=zd Y
     have J:Hid (cy s.data.toList=(4,B)):=zh (by rw [I.out,E,L,G,if_neg (by simp),if_neg (by simp),if_pos Y])
     clear E L G I h
     go_enter Tryz.func71,Tryz.ntmps71
     go_wp2_with fail
     refine(O.out).mono ?_
     rintro m A ⟨rfl,rfl⟩
     go_wp2_with fail
     refine(R.out).mono ?_
     rintro m A ⟨rfl,rfl⟩
     go_wp2_with fail
     refine(H.out).mono ?_
     rintro m A ⟨rfl,rfl⟩
     go_wp2_with fail
     go_ret2
     exact⟨by rw [J.out];rfl,rfl⟩
    ·obtain rfl:B=0:=by omega
     have J:Hid (cy s.data.toList=(0,0)):=zh (by rw [I.out,E,L,G,if_neg (by simp),if_neg (by simp),if_neg (by simp)])
     clear E L G I h
     go_enter Tryz.func71,Tryz.ntmps71
     go_wp2_with fail
     refine(O.out).mono ?_
     rintro m A ⟨rfl,rfl⟩
     go_wp2_with fail
     refine(R.out).mono ?_
     rintro m A ⟨rfl,rfl⟩
     go_wp2_with fail
     refine(H.out).mono ?_
     rintro m A ⟨rfl,rfl⟩
     go_wp2_with fail
     go_ret2
     exact⟨by rw [J.out];rfl,rfl⟩
   ·rw [L] at R
    have H:=zh (Yp s w hs)
    have J:Hid (cy s.data.toList=(3,runN fy s.data.toList)):=zh (by rw [I.out,E,L,if_neg (by simp),if_pos rfl])
    clear E L I h
    go_enter Tryz.func71,Tryz.ntmps71
    go_wp2_with fail
    refine(O.out).mono ?_
    rintro m A ⟨rfl,rfl⟩
    go_wp2_with fail
    refine(R.out).mono ?_
    rintro m A ⟨rfl,rfl⟩
    go_wp2_with fail
    refine(H.out).mono ?_
    rintro m A ⟨rfl,rfl⟩
    go_wp2_with fail
    go_ret2
    exact⟨by rw [J.out];rfl,rfl⟩
  ·rw [E] at O
   have H:=zh (VP s w hs)
   obtain⟨B,G⟩:=zx (runN inW s.data.toList)
   have TT:B<=s.size:=by rw [<-G,<-aQ];exact rK _ _
   have U:=zh (Sg (s.extract 0 B) w h)
   rw [Pi] at U
   rw [G] at H
   have J:Hid (cy s.data.toList=(if fY.contains (s.data.toList.take B) then 2 else 1,B)):=zh (by rw [I.out,E,G,if_pos rfl])
   generalize fY.contains (s.data.toList.take B)=kk at *
   clear E G I h
   cases kk
   ·go_enter Tryz.func71,Tryz.ntmps71
    go_wp2_with fail
    refine(O.out).mono ?_
    rintro m A ⟨rfl,rfl⟩
    go_wp2_with fail
    refine(H.out).mono ?_
    rintro m A ⟨rfl,rfl⟩
    go_wp2_with fail
    refine(U.out).mono ?_
    rintro m A ⟨rfl,rfl⟩
    go_wp2_with fail
    go_ret2
    exact⟨by rw [J.out];rfl,rfl⟩
   ·go_enter Tryz.func71,Tryz.ntmps71
    go_wp2_with fail
    refine(O.out).mono ?_
    rintro m A ⟨rfl,rfl⟩
    go_wp2_with fail
    refine(H.out).mono ?_
    rintro m A ⟨rfl,rfl⟩
    go_wp2_with fail
    refine(U.out).mono ?_
    rintro m A ⟨rfl,rfl⟩
    go_wp2_with fail
    go_ret2
    exact⟨by rw [J.out];rfl,rfl⟩
theorem Ic {s:ByteArray} (h:0<s.size):s.data.toList.head? = some s[0]:=by rw [ti h];rfl
theorem Rh (k:Nat) (U:k<=5) (s:ByteArray) (w:World) (Y:s.size<=1000000):Calls Tryz.prog 72 #[.int .i64 (k:Int),.string s] w (D4 (cK k s.data.toList) w):=by
 have A:Hid (cK k s.data.toList=if k=0\/k=1/\40<s.size then 20 else if k=3/\(60<s.size\/1<s.size/\s.data.toList.head? = some 48) then 21 else 0):=zh (by unfold cK;rw [aQ])
 match k,U with
 | 0,_=>
   go_enter Tryz.func72,Tryz.ntmps72
   go_wp2
   go_ret
   exact⟨by rw [A.out];rfl,rfl⟩
 | 1,_=>
   by_cases B:40<s.size
   ·have G:=zE ((40:Int)<s.size)
    have I:decide (40<s.size)=true:=zd B
    have m:Hid (cK 1 s.data.toList=20):=zh (by rw [A.out,if_pos (.inr ⟨rfl,B⟩)])
    go_enter Tryz.func72,Tryz.ntmps72
    go_wp2
    go_ret
    exact⟨by rw [m.out];rfl,rfl⟩
   ·have G:=zX ((40:Int)<s.size)
    have I:decide (40<s.size)=false:=VW B
    have m:Hid (cK 1 s.data.toList=0):=zh (by rw [A.out,if_neg (by omega),if_neg (by omega)])
    go_enter Tryz.func72,Tryz.ntmps72
    go_wp2
    go_ret
    exact⟨by rw [m.out];rfl,rfl⟩
 | 2,_=>
   go_enter Tryz.func72,Tryz.ntmps72
   go_wp2
   go_ret
   exact⟨by rw [A.out];rfl,rfl⟩
 | 3,_=>
   by_cases B:60<s.size
   ·have G:=zE ((60:Int)<s.size)
    have I:decide (60<s.size)=true:=zd B
    have m:Hid (cK 3 s.data.toList=21):=zh (by rw [A.out,if_neg (by omega),if_pos ⟨rfl,.inl B⟩])
    go_enter Tryz.func72,Tryz.ntmps72
    go_wp2
    go_ret
    exact⟨by rw [m.out];rfl,rfl⟩
   ·have G:=zX ((60:Int)<s.size)
    have I:decide (60<s.size)=false:=VW B
    by_cases H:1<s.size
    ·have L:=zE ((1:Int)<s.size)
     have O:decide (1<s.size)=true:=zd H
     have J:0<s.size:=by omega
     by_cases E:s[0]=48
     ·have R:(((s[0].toNat:Int)) == 48)=true:=by rw [E];rfl
      have m:Hid (cK 3 s.data.toList=21):=zh (by rw [A.out,if_neg (by omega),if_pos ⟨rfl,.inr ⟨H,by rw [Ic J,E]⟩⟩])
      clear E
      go_enter Tryz.func72,Tryz.ntmps72
      go_wp2
      go_ret
      exact⟨by rw [m.out];rfl,rfl⟩
     ·have R:(((s[0].toNat:Int)) == 48)=false:=Ts 48 rfl E
      have m:Hid (cK 3 s.data.toList=0):=zh (by rw [A.out,if_neg (by omega),if_neg (fun h=>by
       rcases h.2 with h | h
       ·exact B h
       ·rw [Ic J] at h;exact E (Option.some.inj h.2))])
      clear E
      go_enter Tryz.func72,Tryz.ntmps72
      go_wp2
      go_ret
      exact⟨by rw [m.out];rfl,rfl⟩
    ·have L:=zX ((1:Int)<s.size)
     have O:decide (1<s.size)=false:=VW H
     have m:Hid (cK 3 s.data.toList=0):=zh (by rw [A.out,if_neg (by omega),if_neg (by omega)])
     go_enter Tryz.func72,Tryz.ntmps72
     go_wp2
     go_ret
     exact⟨by rw [m.out];rfl,rfl⟩
 | 4,_=>
   go_enter Tryz.func72,Tryz.ntmps72
   go_wp2
   go_ret
   exact⟨by rw [A.out];rfl,rfl⟩
 | 5,_=>
   go_enter Tryz.func72,Tryz.ntmps72
   go_wp2
   go_ret
   exact⟨by rw [A.out];rfl,rfl⟩
def abd (v:Int) (w:World) (e:Ending) (m:World):Prop:=e=.returned (.int .i64 v)/\w.grownBy m none
def pq (v:List UInt8) (w:World) (e:Ending) (A:World):Prop:=(∃m:ByteArray,e=.returned (.string m)/\m.data.toList=v)/\w.grownBy A none
theorem vx (p:UInt8->Bool):∀l:List UInt8,l.dropWhile p=l.drop (runN p l)
 | []=>rfl
 | a::r=>by
   unfold runN
   cases h:p a
   ·rw [dropWhile_cons_of_neg (by simp [h])];rfl
   ·rw [dropWhile_cons_of_pos h,vx p r];rfl
theorem Qs (l:List UInt8):Lib.trimLeftS l [32,9,13,10]=l.drop (runN qX l):=by
 rw [<-vx]
 unfold Lib.trimLeftS
 congr 1
 funext m
 simp only [contains_cons,qX,contains_nil,Bool.or_false,Bool.or_assoc]
theorem Ac:∀l:List UInt8,sk false l=runN qX l+sk false (l.drop (runN qX l))
 | []=>rfl
 | a::r=>by
   unfold runN
   cases h:qX a
   ·simp
   ·have:=Ac r
    simp only [sk,h,if_true,drop_succ_cons]
    omega
theorem Sb (l:List UInt8):∀b,(l.drop (runN qX l)).head? = some b->qX b=false:=by
 induction l with
 | nil=>intro b h;simp [runN] at h
 | cons A E B=>
   intro b h
   unfold runN at h
   cases m:qX A
   ·rw [m] at h;simp at h;subst h;exact m
   ·rw [m] at h;exact B b (by simpa using h)
theorem Q9 {l:List UInt8} (E:∀b,l.head? = some b->qX b=false) (G:List.isPrefixOf [45,45] l=false):sk false l=0:=by
 cases l with
 | nil=>rfl
 | cons B A=>
   have H:=E B rfl
   simp only [sk,H]
   rw [if_neg (by simp),if_neg]
   rintro⟨rfl,m⟩
   cases A with
   | nil=>cases m
   | cons b A=>simp at m;subst m;simp [List.isPrefixOf] at G
def nlN (l:List UInt8):Nat:=runN (fun m=>m != 10) l
theorem Ii:∀l:List UInt8,sk true l=min (nlN l+1) l.length+sk false (l.drop (nlN l+1))
 | []=>by simp [sk]
 | a::r=>by
   by_cases h:a=10
   ·subst h
    have:nlN (10::r)=0:=rfl
    rw [this];simp [sk];omega
   ·have A:(a != 10)=true:=by simpa using h
    have m:nlN (a::r)=nlN r+1:=by unfold nlN;simp only [runN,A];rfl
    have B:=Ii r
    rw [m];simp only [sk,if_neg h,drop_succ_cons,hJ]
    omega
theorem Ji {l:List UInt8} (h:List.isPrefixOf [45,45] l=true):sk false l=min (nlN l+1) l.length+sk false (l.drop (nlN l+1))/\0<l.length:=by
 match l,h with
 | [],h=>simp [List.isPrefixOf] at h
 | [a],h=>simp [List.isPrefixOf] at h
 | a::b::r,h=>
   simp [List.isPrefixOf] at h
   obtain⟨rfl,rfl⟩:=h
   have m:sk false (45::45::r)=sk true (45::45::r):=by
    simp [sk,qX]
   rw [m]
   exact⟨Ii _,by simp⟩
theorem Op {l:List UInt8} (h:Lib.indexByte l 10 = -1):nlN l=l.length:=by
 refine og _ (Nat.le_refl _) (fun G B _ m=>?_) (fun B m=>?_)
 ·have A:=Lib.indexByte_none h G
  rw [m] at A
  simpa using fun E=>A (by rw [E])
 ·rw [getElem?_eq_none (Nat.le_refl _)] at m;cases m
theorem Oq {l:List UInt8} {o:Nat} (h:Lib.indexByte l 10=o):nlN l=o/\o<l.length:=by
 obtain⟨A,H⟩:=Lib.indexByte_some h
 have J:=(Q4.1 A).1
 refine⟨og _ (by omega) (fun L E I m=>?_) (fun E m=>?_),J⟩
 ·have B:=H L I
  rw [m] at B
  simpa using fun G=>B (by rw [G])
 ·rw [A] at m;injection m with m;subst m;rfl
theorem Br (s:ByteArray) (a n:Nat) (h:s.size=n):(s.extract a n).data.toList=s.data.toList.drop a:=by
 rw [ext_list,V7 (by rw [aQ];omega)]
def TX (l:List UInt8) (w:World) (e:Ending) (B:World):Prop:=(∃(E m:ByteArray) (A:Bool),e=.returned (.tuple #[.string E,.string m,.bool A])/\m.data.toList=l.drop (nlN l+1))/\w.grownBy B none
theorem Sl (s:ByteArray) (w:World) (hs:s.size<=1000000):Calls Tryz.prog 135 #[.string s,.string ⟨#[10]⟩] w (TX s.data.toList w):=by
 obtain⟨J,I⟩:=zx s.size
 have U:=zh I
 rw [I] at hs
 have E:s.data.toList.length=J:=by rw [<-I];exact Array.length_toList
 have m:=Tryz.stringslite_Index_one s 10 w
 by_cases h:Lib.indexByte s.data.toList 10 = -1
 ·rw [h] at m
  have B:=zh m
  have G:=zh (Op h)
  have HL:=zh E
  clear m h E
  go_enter Tryz.func135,Tryz.ntmps135
  go_wp2_with fail
  refine B.mono ?_
  rintro Y w' ⟨rfl,rfl⟩
  clear B
  go_wp2_with fail
  go_ret3
  exact⟨⟨_,_,_,rfl,by rw [G.out,drop_of_length_le (by omega)]⟩,ad _ _⟩
 ·have O:=Lib.indexByte_ge s.data.toList 10
  obtain⟨A,H⟩:∃A:Nat,Lib.indexByte s.data.toList 10=A:=⟨(Lib.indexByte s.data.toList 10).toNat,by omega⟩
  rw [H] at m
  have B:=zh m
  obtain⟨L,Z⟩:=Oq H
  have G:=zh L
  rw [E] at Z
  have ak:IntKind.i64.wrap ((A:Int)+1)=(A:Int)+1:=IntWalk.i64_in _ (by omega)
  have R:Hid ((s.extract (A+1) J).data.toList=s.data.toList.drop (A+1)):=zh (Br s _ J U)
  clear m h E O H L
  go_enter Tryz.func135,Tryz.ntmps135
  go_wp2_with fail
  refine B.mono ?_
  rintro Y w' ⟨rfl,rfl⟩
  clear B
  go_wp2_with fail
  go_quiet (fail)
  go_wp2_with fail
  go_ret3
  exact⟨⟨_,_,_,rfl,by rw [G.out];exact R.out⟩,am (ad _ _) _⟩
theorem Vw (s:ByteArray) (w:World) (A:s.size<=1000000):Calls Tryz.prog 106 #[.string s,.string ⟨#[10]⟩] w (TX s.data.toList w):=by
 have H:=zh (Sl s w A)
 clear A
 go_enter Tryz.func106,Tryz.ntmps106
 go_wp2_with fail
 refine H.mono ?_
 rintro O R ⟨⟨J,L,I,rfl,B⟩,m⟩
 have E:=zh m;have G:=zh B
 clear m B
 go_wp2_with fail
 go_ret3
 exact⟨⟨J,L,I,rfl,G⟩,E⟩
theorem Bn (s:ByteArray) (w:World):Calls Tryz.prog 104 #[.string s,.string ⟨#[32,9,13,10]⟩] w (pq (s.data.toList.drop (runN qX s.data.toList)) w):=by
 refine(Any.strings_TrimLeft_laid Tryz.lays161 (by kernel_rfl) s ⟨#[32,9,13,10]⟩ w (by decide) (ascii_of_all (by decide))).mono ?_
 rintro A B ⟨rfl,m⟩
 exact⟨⟨_,rfl,by rw [<-Qs]⟩,bj m⟩
theorem EZ (s:ByteArray) (w:World) (hs:s.size<=1000000):Calls Tryz.prog 70 #[.string s] w (abd (sk false s.data.toList) w):=by
 obtain⟨B,hn⟩:=zx s.size
 have HN:=zh hn
 rw [hn] at hs
 go_enter Tryz.func70,Tryz.ntmps70
 go_wp2_with fail
 go_loopw [3] (fun au wr=>∃(m:Nat) (U:ByteArray),m<=B/\au=.string U/\U.size=B - m/\Hid (U.data.toList=s.data.toList.drop m/\sk false s.data.toList=m+sk false (s.data.toList.drop m))/\Hid (w.grownBy wr none)) (fun au _=>Lib.strSize au)
 case atStart=>exact⟨0,s,zero_le _,rfl,by omega,zh ⟨rfl,by simp⟩,ad _ _⟩
 case round=>
  obtain⟨m,U,hp,rfl,K2,HT,HG⟩:=hrel
  have ax:=zh K2
  clear K2
  go_wp2_with fail
  refine(Bn U wr).mono ?_
  rintro L w1 ⟨⟨t1,rfl,G⟩,cJ⟩
  have fu:=zh (aa HG cJ)
  have R:s.data.toList.length=B:=by rw [aQ,HN.out]
  have H:∃A,runN qX (s.data.toList.drop m)=A/\m+A<=B:=⟨_,rfl,by have:=rK qX (s.data.toList.drop m);rw [length_drop] at this;omega⟩
  obtain⟨A,H,aJ⟩:=H
  have hb:=Ac (s.data.toList.drop m)
  have Pb:=Sb (s.data.toList.drop m)
  rw [HT.1,H,drop_drop] at G
  rw [H,drop_drop] at hb Pb
  have ak:sk false s.data.toList=m+A+sk false (s.data.toList.drop (m+A)):=by rw [HT.2,hb];omega
  have Y:t1.size=B - (m+A):=by rw [<-aQ,G,length_drop,R]
  have E:=zh (Tryz.strings_HasPrefix t1 ⟨#[45,45]⟩ w1)
  rw [pm,G] at E
  change Hid (Calls _ _ _ _ fun L w'=>L=.returned (.bool (List.isPrefixOf [45,45] (s.data.toList.drop (m+A))))/\w'=w1) at E
  cases I:List.isPrefixOf [45,45] (s.data.toList.drop (m+A))
  ·rw [I] at E
   have Z:Hid (sk false s.data.toList=m+A):=zh (by rw [ak,Q9 Pb I];rfl)
   have lN:=zh Y
   clear G hb Pb ak I cJ H R HT Y
   go_wp2_with fail
   refine E.mono ?_
   rintro L w2 ⟨rfl,rfl⟩
   clear E
   have hz:t1.size<=B:=by have:=lN.out;omega
   go_wp2_with fail
   go_ret
   exact⟨SY (by rw [Z.out];have:=lN.out;omega),fu⟩
  ·rw [I] at E
   have ap:=zh (Vw t1 w1 (by omega))
   obtain⟨J,Nw⟩:=Ji I
   rw [G] at ap
   rw [drop_drop] at J
   rw [length_drop,R] at J Nw
   obtain⟨ao,hm⟩:=zx (nlN (s.data.toList.drop (m+A)))
   rw [hm] at J
   have HM:=zh hm
   have Z:=zh ak;have LP:=zh J;have O:=zh R;have lN:=zh Y
   clear G hb Pb ak I cJ H R hm J HT Y
   go_wp2_with fail
   refine E.mono ?_
   rintro L w2 ⟨rfl,rfl⟩
   clear E
   go_wp2_with fail
   refine ap.mono ?_
   rintro L w3 ⟨⟨aL,av,ay,rfl,hy⟩,hg⟩
   rw [HM.out,drop_drop] at hy
   have gA:=zh (aa fu hg)
   have kw:av.size=B - (m+A+(ao+1)):=by rw [<-aQ,hy,length_drop,O.out]
   have HY:=zh hy;have aq:=zh kw
   clear ap hg hy kw
   go_wp2_with fail
   go_roundw
   case rel=>
    by_cases zo:m+A+(ao+1)<=B
    ·exact⟨m+A+(ao+1),av,zo,rfl,aq,zh ⟨HY,by rw [Z.out,LP.out,Nat.min_eq_left (by omega)];omega⟩,gA⟩
    ·refine⟨B,av,Nat.le_refl _,rfl,by rw [aq.out];omega,zh ⟨?_,?_⟩,gA⟩
     ·rw [HY.out,drop_of_length_le (by rw [O.out];omega),drop_of_length_le (by rw [O.out];omega)]
     ·rw [Z.out,LP.out,Nat.min_eq_right (by omega),drop_of_length_le (l:=s.data.toList) (i:=m+A+(ao+1)) (by rw [O.out];omega),drop_of_length_le (l:=s.data.toList) (i:=B) (by rw [O.out];omega)]
      simp [sk];omega
   case measure=>
    rw [Lib.strSize_string,Lib.strSize_string,aq.out,ax.out]
    omega
open Go.RowKit List Nat Go.World
def oK (t:Tok):List Value:=[.int .i64 (t.kind:Int),aD t.lead,aD t.text,.int .i64 (t.pos:Int)]
def io (l:List Tok):List Value:=l.flatMap oK
theorem D3 (p:Tok) (l:List Tok):io (p::l)=.int .i64 (p.kind:Int)::aD p.lead::aD p.text::.int .i64 (p.pos:Int)::io l:=rfl
theorem xU (l r:List Tok):io (l++r)=io l++io r:=by unfold io;rw [flatMap_append]
theorem E4 (l:List Tok) (j:Nat) (p:Tok) (h:l[j]? = some p):(io l)[j*4]? = some (.int .i64 (p.kind:Int))/\(io l)[j*4+1]? = some (aD p.lead)/\(io l)[j*4+2]? = some (aD p.text)/\(io l)[j*4+3]? = some (.int .i64 (p.pos:Int)):=by
 induction l generalizing j with
 | nil=>simp at h
 | cons A l m=>
   rw [D3]
   match j,h with
   | 0,h=>simp at h;subst h;exact⟨rfl,rfl,rfl,rfl⟩
   | j+1,h=>
     have:=m j (by simpa using h)
     rw [show(j+1)*4=j*4+1+1+1+1 by omega]
     simpa using this
def TAt (w:World) (p:Option Addr) (l:List Tok):Prop:=
 l = []\/∃m B,p=some ⟨m,B,none⟩/\m<w.heap.size/\∀A E,l[A]? = some E->w.cell? ⟨m,B+A*4,none⟩=some (.int .i64 (E.kind:Int))/\w.cell? ⟨m,B+A*4+1,none⟩=some (aD E.lead)/\w.cell? ⟨m,B+A*4+2,none⟩=some (aD E.text)/\w.cell? ⟨m,B+A*4+3,none⟩=some (.int .i64 (E.pos:Int))
theorem TAt.kept {w H:World} {p:Option Addr} {l:List Tok} (h:TAt w p l) (m:w.grownBy H none):TAt H p l:=by
 rcases h with h | ⟨I,L,rfl,J,A⟩
 ·exact .inl h
 ·exact .inr ⟨I,L,rfl,zn J m.size,fun E G B=>⟨m.cell (A E G B).1 (by simp),m.cell (A E G B).2.1 (by simp),m.cell (A E G B).2.2.1 (by simp),m.cell (A E G B).2.2.2 (by simp)⟩⟩
def pH (T:TypeId) (w:World) (base:Nat) (v:Value) (l:List Tok):Prop:=w.ownsRow base T 4 v l.length (io l)
theorem pH.nil (T:TypeId) (w:World) (base:Nat):pH T w base (.slice none 0 0) []:=ownsRow_nil _ _ _ _
theorem pH.kept {T:TypeId} {w m:World} {base:Nat} {v:Value} {l:List Tok} (h:pH T w base v l) (A:w.grownBy m none):pH T m base v l:=World.ownsRow.kept h A (by
 cases B:v.ownBlock with
 | none=>exact .inl rfl
 | some E=>exact .inr (by simp))
theorem pH.is {T:TypeId} {w:World} {base:Nat} {v:Value} {l:List Tok} (h:pH T w base v l):∃p c,v=.slice p l.length c/\TAt w p l/\l.length<=c/\c<=maxLen/\(l≠[]->∀a,p=some a->base<=a.block):=by
 rcases h.2 with ⟨rfl,R⟩ | ⟨E,B,ep,rfl,U,Y,zC,xu,h1,h2⟩
 ·have:l = []:=fb R
  subst this
  exact⟨none,0,rfl,.inl rfl,Nat.le_refl _,by unfold maxLen;omega,fun h=>absurd rfl h⟩
 ·refine⟨_,B,rfl,.inr ⟨E,0,rfl,hlt Y,fun H Z G=>?_⟩,zC,xu,fun _ a A=>by injection A with A;subst A;exact U⟩
  obtain⟨I,J,L,O⟩:=E4 l H Z G
  have PU:H<l.length:=(Q4.1 G).1
  have m:w.ownsRow base T 4 (.slice (some ⟨E,0,none⟩) l.length B) l.length (io l):=h
  rw [Nat.zero_add]
  exact⟨by rw [m.cellAt _ (by omega)];exact I,by rw [m.cellAt _ (by omega)];exact J,by rw [m.cellAt _ (by omega)];exact L,by rw [m.cellAt _ (by omega)];exact O⟩
theorem nT {t T:TypeId} {z:Value} {B:Nat} (ht:Tryz.prog.underlying t=some (.slice T)) (hT:(Tryz.prog.info? T).map (fun L=>(L.zero,L.size,L.bytes))=some (some z,4,B)) (hz:z.cells.size=4) (ao:B<=64)
  {A:World} {ak:Array Oper} {rest:List Oper} {o:Oper} {a:Act} {Q:Exit->Act->World->Prop} (fe:o.guard=none) (s x:Operand) (ho:o.op=.call { callee:=.builtin .append,args:=#[s,x],argTypes:=#[t,t] })
  (base:Nat) (l:List Tok) (y:Tok) (O R U Y:Value) (J:oK y = [O,R,U,Y]) (v:Value) (hs:a.eval s=v) (eF:pH T A base v l) (H:Nat) (hH:A.heap.size=H) (hx:a.eval x=.slice (some ⟨H,0,none⟩) 1 1) (hn:l.length<=1000000) (gu:base<=A.heap.size)
  (K:∀g' G E,pH T E base (.slice (some ⟨g',0,none⟩) (l.length+1) G) (l++[y])->Below base A E->wpList Tryz.prog ak Q rest (a.put o.dst (.slice (some ⟨g',0,none⟩) (l.length+1) G)) E):
  wpList Tryz.prog ak Q (o::rest) a (A.alloc (.cells #[O,R,U,Y] T)):=by
 subst hH
 obtain⟨i0,hi,ap,aq,au⟩:=info_parts hT
 have Z:=World.ownsRow.alloc eF (.cells #[O,R,U,Y] T)
 have hb:(l.length+1)*B<=140737488355328:=by
  have:(l.length+1)*B<=(l.length+1)*64:=mul_le_mul_left _ ao
  omega
 unfold oK at J
 simp only [List.cons.injEq,and_true] at J
 obtain⟨rfl,rfl,rfl,rfl⟩:=J
 refine wpList_append_lies (P:=Tryz.prog) _ fe s x t ho base T i0 z 4 B ht hi ap aq au hz (by decide) _ l.length (io l) hs Z ⟨A.heap.size,0,none⟩ 1 1 (oK y) hx rfl ?_ ?_ (by omega) (by unfold maxLen;omega) hb (by simp;omega) (A.heap.size+1) (by simp) ?_
 ·intro av ax m
  rw [Addr.add_lit,hZ _ A.heap.size _ _ _ (0,0) (YK A _)]
  unfold oK at m
  match av,m with
  | 0,m=>simp at m;subst m;rfl
  | 1,m=>simp at m;subst m;rfl
  | 2,m=>simp at m;subst m;rfl
  | 3,m=>simp at m;subst m;rfl
 ·intro ax I
  unfold oK at I
  simp at I;rcases I with rfl | rfl | rfl | rfl<;>rfl
 ·intro g' G E h3 h4 h5 _
  exact K g' G E (by simpa [pH,xU,io] using h3) (Below.trans2 (Below.gb (qn A _ none) gu) (sY Z (by simp;omega) h4))
theorem TAt.setBox {w:World} {p:Option Addr} {l:List Tok} {b:Nat} (h:TAt w p l) (H:l≠[]->∀a,p=some a->b<a.block) (j:Nat) (u:Value):TAt (w.setCell ⟨b,j,none⟩ u) p l:=by
 rcases h with h | ⟨m,G,rfl,L,I⟩
 ·exact .inl h
 ·by_cases E:l = []
  ·exact .inl E
  ·have U:b<m:=H E ⟨m,G,none⟩ rfl
   have A:∀B,(w.setCell ⟨b,j,none⟩ u).cell? ⟨m,B,none⟩=w.cell? ⟨m,B,none⟩:=fun B=>
    cell?_of_block (w:=w) (Below.heap_setCell _ _ _ _ (by simp;omega))
   exact .inr ⟨m,G,rfl,by simpa [World.setCell] using L,fun O R J=>by rw [A,A,A,A];exact I O R J⟩
theorem ac {w:World} {r:Nat} {u v:Value} {T:TypeId} (h:w.heap[r]? = some (.cells #[u,v] T (0,0))):w.cell? ⟨r,0,none⟩=some u/\w.cell? ⟨r,1,none⟩=some v/\∀o,w.frozen? ⟨r,o,none⟩=false:=
 ⟨by rw [hZ w r 0 _ T (0,0) h];rfl,by rw [hZ w r 1 _ T (0,0) h];rfl,fun o=>by simp [World.frozen?,h]⟩
theorem Ln:(Tryz.prog.info? 91).map (fun m=>(m.zero,m.size,m.bytes))=some (some (.agg #[.int .i64 0,.string ⟨#[]⟩,.string ⟨#[]⟩,.int .i64 0]),4,48):=by kernel_rfl
structure fN where
 kind:Int
 lead:List UInt8
 text:List UInt8
 pos:Int
structure Nd where
 kind:Int
 tok:Int
 kids:List Int
def rc {α : Type} (d : α) (F:Nd->(Int->α)->α) (N:List Nd):Nat->Nat->α
 | 0,_=>d
 | f+1,n=>match N[n]? with
   | none=>d
   | some A=>F A (fun m=>rc d F N f m.toNat)
def rcw {α : Type} (d : α) (F:Nd->(Int->α)->α) (N:List Nd) (n:Nat):α:=rc d F N (n+1) n
def JM (N:List Nd):Prop:=∀(m:Nat) (B:Nd),N[m]? = some B->∀A∈B.kids,0<=A/\A<(m:Int)
def lvF (x:Nd) (g:Int->List Int):List Int:=if x.kind=19 then [x.tok] else x.kids.flatMap g
def lv (N:List Nd) (n:Nat):List Int:=rcw [] lvF N n
def Qk (N:List Nd):List Int:=N.flatMap (·.kids)
def aco (N:List Nd) (j:Nat):Nat:=(Qk N).count (j:Int)
def agO (m i:Nat) (x:Nd):Prop:=1<=x.kind/\x.kind<=19/\(x.kind=19->x.kids = []/\0<=x.tok/\x.tok<(m:Int))/\(x.kind≠19->x.tok = -1)/\∀A∈x.kids,0<=A/\A<(i:Int)
def Forms (m:Nat) (N:List Nd):Prop:=N≠[]/\(∀(A:Nat) (E:Nd),N[A]? = some E->agO m A E)/\∀B:Nat,B+1<N.length->aco N B=1
theorem Forms.ahead {m:Nat} {N:List Nd} (h:Forms m N):JM N:=fun B E A=>(h.2.1 B E A).2.2.2.2
end Go.Proofs.YtpkipghjohomcaaGreatDoor
namespace Go.Proofs.YtpkipghjohomcaaGreatDoor.Mx
def V (b:Nat) (f:Nat->Nat) (o:Nat):Nat->Nat
 | 0=>0
 | n+1=>V b f o n+f (o+n)*b ^ n
variable {b:Nat} {f g:Nat->Nat} {o p n m:Nat}
theorem jn:V b f o (n+1)=V b f o n+f (o+n)*b ^ n:=rfl
theorem uO (h:∀j,j<n->f (o+j)=g (p+j)):V b f o n=V b g p n:=by
 induction n with
 | zero=>rfl
 | succ n A=>rw [jn,jn,A (fun j B=>h j (by omega)),h n (by omega)]
theorem Rj (h:∀j,j<n->f (o+j)=0):V b f o n=0:=by
 induction n with
 | zero=>rfl
 | succ n A=>rw [jn,A (fun j B=>h j (by omega)),h n (by omega)];simp
theorem We (h:∀j,j<n->f (o+j)<b):V b f o n<b ^ n:=by
 induction n with
 | zero=>simp [V]
 | succ n E=>
   have G:=E (fun j H=>h j (by omega))
   have A:f (o+n)+1<=b:=h n (by omega)
   have B:(f (o+n)+1)*b ^ n<=b*b ^ n:=Nat.mul_le_mul_right _ A
   rw [jn,Nat.pow_succ,Nat.mul_comm (b ^ n) b]
   rw [Nat.add_mul] at B
   omega
theorem BG (m:Nat):V b f o (m+n)=V b f o m+b ^ m*V b f (o+m) n:=by
 induction n with
 | zero=>simp [V]
 | succ n A=>
   rw [<-Nat.add_assoc,jn,A,jn,Nat.pow_add,Nat.add_assoc o m n]
   grind
theorem uQ:V b f o (n+1)=f o+b*V b f (o+1) n:=by
 rw [Nat.add_comm n 1,BG];simp [V]
theorem agv (h:f (o+n)≠0):b ^ n<=V b f o (n+1):=by
 have:1*b ^ n<=f (o+n)*b ^ n:=Nat.mul_le_mul_right _ (by omega)
 rw [jn];omega
theorem zu (h:n=0\/f (o+n - 1)≠0):n=0\/b ^ (n - 1)<=V b f o n:=by
 cases n with
 | zero=>exact .inl rfl
 | succ n=>exact .inr (agv (by simpa using h))
theorem Ue (h:∀j,n<=j->j<m->f (o+j)=0) (E:n<=m):V b f o m=V b f o n:=by
 obtain⟨A,rfl⟩:∃A,m=n+A:=⟨m - n,by omega⟩
 rw [BG,Rj (n:=A) (fun j B=>by rw [Nat.add_assoc];exact h (n+j) (by omega) (by omega))];simp
theorem Tl (B:0<b) (h:∀j,j<n->f (o+j)<b) {j:Nat} (I:j<n):V b f o n / b ^ j % b=f (o+j):=by
 obtain⟨A,rfl⟩:∃A,n=j+(A+1):=⟨n - j - 1,by omega⟩
 have hlt:V b f o j<b ^ j:=We (fun G H=>h G (by omega))
 have E:0<b ^ j:=Nat.pow_pos B
 rw [BG,Nat.add_mul_div_left _ _ E,Nat.div_eq_of_lt hlt,Nat.zero_add,uQ,Nat.add_mul_mod_self_left,Nat.mod_eq_of_lt (h j (by omega))]
def upd (f:Nat->Nat) (k x:Nat):Nat->Nat:=fun A=>if A=k then x else f A
theorem Bk (k x:Nat):upd f k x k=x:=by simp [upd]
theorem upd_ne {k j x:Nat} (h:j≠k):upd f k x j=f j:=by simp [upd,h]
theorem tg {k x:Nat} (h:k<o\/o+n<=k):V b (upd f k x) o n=V b f o n:=
 uO (fun B A=>upd_ne (by omega))
end Go.Proofs.YtpkipghjohomcaaGreatDoor.Mx
namespace Go.Proofs.YtpkipghjohomcaaGreatDoor.Mx
structure l8 (u d Y eL mG:Nat):Prop where
 hY:Y=eL*4294967296+mG
 h0:mG<4294967296
 h1:2147483648<=eL
 h2:eL<4294967296
 hu:u<Y
 hd:d<4294967296
section
variable {u d Y eL mG q r:Nat}
theorem l8.pos (h:l8 u d Y eL mG):0<Y:=by have:=h.hY;have:=h.h1;omega
theorem l8.lt (h:l8 u d Y eL mG):(u*4294967296+d) / Y<4294967296:=by
 rw [Nat.div_lt_iff_lt_mul h.pos]
 have:=h.hu;have:=h.hd;omega
theorem VT (h:l8 u d Y eL mG) (e:q*eL+r=u):q*Y+r*4294967296=u*4294967296+q*mG:=by
 rw [h.hY,<-e];grind
theorem l8.stop (h:l8 u d Y eL mG) (e:q*eL+r=u) (A:(u*4294967296+d) / Y<=q) (t:q*mG<=4294967296*r+d):q=(u*4294967296+d) / Y:=by
 have m:=VT h e
 have:q<=(u*4294967296+d) / Y:=by
  rw [Nat.le_div_iff_mul_le h.pos];omega
 omega
theorem l8.more (h:l8 u d Y eL mG) (e:q*eL+r=u) (t:4294967296<=q\/4294967296*r+d<q*mG):(u*4294967296+d) / Y<q:=by
 rcases t with t | t
 ·have:=h.lt;omega
 ·have m:=VT h e
  rw [Nat.div_lt_iff_lt_mul h.pos];omega
theorem l8.brk (h:l8 u d Y eL mG) (e:q*eL+r=u) (B:(u*4294967296+d) / Y<=q) (E:4294967296<=r) (A:q<=4294967296):q=(u*4294967296+d) / Y:=by
 have m:=VT h e
 have:q*mG<=4294967296*4294967295:=Nat.mul_le_mul A (by have:=h.h0;omega)
 have:q<=(u*4294967296+d) / Y:=by
  rw [Nat.le_div_iff_mul_le h.pos];omega
 omega
theorem l8.start (h:l8 u d Y eL mG):(u / eL)*eL+u % eL=u/\(u*4294967296+d) / Y<=u / eL/\u / eL<=4294967297/\u % eL<4294967296/\0<eL:=by
 have H:=h.h1;have I:=h.h2;have O:=h.hu;have B:=h.hY;have G:=h.h0;have J:=h.hd
 have A:(u / eL)*eL+u % eL=u:=by rw [Nat.mul_comm];exact Nat.div_add_mod u eL
 have L:u % eL<eL:=Nat.mod_lt _ (by omega)
 refine⟨A,?_,?_,by omega,by omega⟩
 ·rw [Nat.le_div_iff_mul_le (by omega)]
  have R:(u*4294967296+d) / Y*Y<=u*4294967296+d:=Nat.div_mul_le_self _ _
  generalize (u*4294967296+d) / Y=m at *
  have E:m*Y=m*eL*4294967296+m*mG:=by rw [B];grind
  omega
 ·have:u / eL<4294967298:=by
   rw [Nat.div_lt_iff_lt_mul (by omega)];omega
  omega
theorem l8.rest (h:l8 u d Y eL mG):(u*4294967296+d) % Y<Y/\(u*4294967296+d) / Y*Y+(u*4294967296+d) % Y=u*4294967296+d:=by
 refine⟨Nat.mod_lt _ h.pos,?_⟩
 rw [Nat.mul_comm];exact Nat.div_add_mod _ _
end
open Go.Lib in
theorem tG:∀(f x:Nat),x<2 ^ f->x<2 ^ bitLenAux f x/\(x≠0->2 ^ bitLenAux f x<=2*x)/\bitLenAux f x<=f
 | 0,x,h=>by simp at h;subst h;simp [bitLenAux]
 | f+1,x,h=>by
   rw [Nat.pow_succ] at h
   obtain⟨G,B,H⟩:=tG f (x / 2) (by omega)
   by_cases m:x=0
   ·subst m;simp [bitLenAux]
   ·have E:bitLenAux (f+1) x=1+bitLenAux f (x / 2):=by simp [bitLenAux,m]
    rw [E,Nat.pow_add]
    refine⟨by omega,fun _=>?_,by omega⟩
    by_cases A:x / 2=0
    ·have:bitLenAux f (x / 2)=0:=by rw [A];cases f<;>simp [bitLenAux]
     rw [this];omega
    ·have:=B A;omega
theorem Nj (y:Nat) (J:0<y) (h:y<18446744073709551616):∃s,s<=63/\Go.Lib.bitLen y+s=64/\y*2 ^ s<18446744073709551616/\9223372036854775808<=y*2 ^ s:=by
 obtain⟨A,m,H⟩:=tG 64 y h
 have m:=m (by omega)
 change y<2 ^ Go.Lib.bitLen y at A
 change 2 ^ Go.Lib.bitLen y<=2*y at m
 change Go.Lib.bitLen y<=64 at H
 have L:Go.Lib.bitLen y≠0:=by intro I;rw [I] at A;omega
 obtain⟨s,E⟩:∃s,Go.Lib.bitLen y+s=64:=⟨64 - Go.Lib.bitLen y,by omega⟩
 have B:2 ^ Go.Lib.bitLen y*2 ^ s=18446744073709551616:=by rw [<-Nat.pow_add,E]
 have G:0<2 ^ s:=Nat.pow_pos (by omega)
 refine⟨s,by omega,E,?_,?_⟩
 ·calc y*2 ^ s<2 ^ Go.Lib.bitLen y*2 ^ s:=Nat.mul_lt_mul_of_pos_right A G
   _=_:=B
 ·have:2 ^ Go.Lib.bitLen y*2 ^ s<=2*y*2 ^ s:=Nat.mul_le_mul_right _ m
  rw [B,Nat.mul_assoc] at this
  omega
end Go.Proofs.YtpkipghjohomcaaGreatDoor.Mx
