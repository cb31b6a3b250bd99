/- Lemmas. -/
import Derived.Deep.CutBlock
import Derived.Deep.DeepCutAuto
import Derived.LoopIn
import Derived.LoopNIn
import Derived.Maps.OwnIn
import Derived.RangeFuncBound
import Derived.RangeFuncNested
import Derived.Shelf.RegionOpen
import Derived.Test.YtjbgnopnehgbaaaGreatDoorP2
import Derived.Test.YtjbgnopnehgbaaaGreatDoorP5
set_option linter.unusedVariables false
set_option linter.unusedSimpArgs false
set_option maxHeartbeats 8000000
set_option maxRecDepth 100000
namespace Go.Proofs.YtjbgnopnehgbaaaGreatDoor
open Go.RowKit
def aR (v:Value) (w:World) (e:Ending) (w':World):Prop:=e=.returned v∧w.grownBy w' none
theorem yO (s:ByteArray) (w:World) (nN:s.size≤281474976710656):Calls Tryz.prog 69 #[.string s] w (aR (.string s) w):=by
 have H:=zh (Tryz.stringslite_Clone s w nN)
 go_enter Tryz.func69,Tryz.ntmps69
 go_wp2_with fail
 refine H.out.mono ?_
 rintro e w1 ⟨rfl,hb⟩
 have HB:=zh hb
 clear hb
 go_wp2_with fail
 go_ret
 exact⟨rfl,bz HB.out⟩
def sN (l:List UInt8) (w:World) (e:Ending) (w':World):Prop:=
 w.grownBy w' none∧if 65536<l.length then e=.returned (.tuple #[.slice none 0 0,.agg #[.int .i64 11,.int .i64 0]])
  else if (ag l).2.1≠0 then e=.returned (.tuple #[.slice none 0 0,.agg #[.int .i64 ((ag l).2.1:Nat),.int .i64 ((ag l).2.2:Nat)]])
  else ∃q c,e=.returned (.tuple #[.slice q (ag l).1.length c,.agg #[.int .i64 0,.int .i64 0]])∧TAt w' q (ag l).1∧(ag l).1.length≤c∧c≤maxLen
theorem Jg (s:ByteArray) {p:Nat} (hp:p≤s.size):∃a k z,sk false (s.data.toList.drop p)=a∧aJ (s.data.toList.drop (p+a))=(k,z)∧k≤5∧p+a+z≤s.size∧dZ (s.data.toList.drop p)=a+z∧
  aY (s.data.toList.drop p) p=⟨k,(s.extract p (p+a)).data.toList,(s.extract (p+a) (p+a+z)).data.toList,p+a⟩:=by
 obtain⟨a,ha⟩:∃a,sk false (s.data.toList.drop p)=a:=⟨_,rfl⟩
 obtain⟨k,z,XH⟩:∃k z,aJ (s.data.toList.drop (p+a))=(k,z):=⟨_,_,rfl⟩
 have h1:=rJ (s.data.toList.drop p) false
 have h2:=mS (s.data.toList.drop (p+a))
 have h3:=(rj (s.data.toList.drop (p+a))).1
 rw [ha,List.length_drop,aM] at h1
 rw [XH] at h2 h3
 rw [List.length_drop,aM] at h2
 simp only at h2 h3
 refine⟨a,k,z,ha,XH,h3,by omega,?_,?_⟩
 ·unfold dZ;rw [ha,List.drop_drop,XH]
 ·unfold aY;rw [ha,List.drop_drop,XH,Bl,Bl]
theorem Lq {s:ByteArray} {w w':World} {e:Ending} (hs:65536<s.size) (hg:w.grownBy w' none) (he:e=.returned (.tuple #[.slice none 0 0,.agg #[.int .i64 11,.int .i64 0]])):sN s.data.toList w e w':=by
 refine⟨hg,?_⟩
 rw [aM,if_pos hs];exact he
theorem Dg {s:ByteArray} {w w':World} {e:Ending} {n p:Nat} (hs:¬ 65536<s.size) (hf:(ag s.data.toList).2=(n,p)) (hn:n≠0) (hg:w.grownBy w' none) (he:e=.returned (.tuple #[.slice none 0 0,.agg #[.int .i64 (n:Int),.int .i64 (p:Int)]])):sN s.data.toList w e w':=by
 refine⟨hg,?_⟩
 rw [aM,if_neg hs,hf,if_pos hn];exact he
theorem Je {s:ByteArray} {w w':World} {e:Ending} {O:List Tok} {q:Option Addr} {c:Nat} (hs:¬ 65536<s.size) (hf:ag s.data.toList=(O,0,0)) (hg:w.grownBy w' none) (he:e=.returned (.tuple #[.slice q O.length c,.agg #[.int .i64 0,.int .i64 0]])) (ht:TAt w' q O) (h1:O.length≤c) (h2:c≤maxLen):sN s.data.toList w e w':=by
 refine⟨hg,?_⟩
 rw [aM,if_neg hs,hf,if_neg (by simp)];exact⟨q,c,he,ht,h1,h2⟩
theorem TB (s:ByteArray) (w:World) (hs:s.size≤1000000) (cg:cM w):Calls Tryz.prog 38 #[.string s] w (sN s.data.toList w):=by
 by_cases hbig:65536<s.size
 ·have d1:decide ((65536:Int)<(s.size:Int))=true:=zd (by omega)
  have uR:decide (65536<s.size)=true:=zd hbig
  go_enter Tryz.func38,Tryz.ntmps38
  go_wp2_with fail
  refine bodyPost_ret (v:=.tuple #[.slice none 0 0,.agg #[.int .i64 11,.int .i64 0]]) (by simp [results,Tryz.results38,go_sem]) rfl (Lq hbig (World.grownBy_alloc w _ _) rfl)
 ·have d1:decide ((65536:Int)<(s.size:Int))=false:=decide_eq_false (by omega)
  have uR:decide (65536<s.size)=false:=decide_eq_false hbig
  have abC:=zh hbig
  have gf:=zh cg
  have f9:=zh (heap_alloc_new w (.cells #[.int .i64 0,.int .i64 0] 44))
  have Bo:=zh (World.grownBy_alloc w (.cells #[.int .i64 0,.int .i64 0] 44) none)
  clear cg
  go_enter Tryz.func38,Tryz.ntmps38
  go_wp2_with fail
  refine(yO s _ (by omega)).mono ?_
  rintro e w0 ⟨rfl,MF⟩
  have lO:=zh (aa Bo.out MF)
  have Z0:=zh (bx MF f9.out)
  have RP:Hid (w.heap.size<w0.heap.size):=zh (by have:=MF.size;simp at this;omega)
  clear MF d1 uR f9 Bo
  go_wp2_with fail
  go_loopw [4,5] (fun ov pv wr=>∃(p:Nat) (O:List Tok),p≤s.size∧pv=.int .i64 p∧Hid (lS s.data.toList O p)∧Hid (nU 105 wr w0.heap.size ov O)∧Hid (w0.grownBy wr none)) (fun _ pv _=>s.size - (intOf pv).toNat)
  case atStart=>exact⟨0,[],Nat.zero_le _,rfl,zh (lS.start _),zh (nU.nil _ _ _),ad _ _⟩
  case round=>
   obtain⟨p,O,hp,rfl,HR,HO,HG⟩:=hrel
   obtain⟨a,k,z,ha,XH,hk5,hpz,si,qK⟩:=Jg s hp
   have ip:=Dc (s.extract p s.size) wr (by rw [ByteArray.size_extract];omega)
   rw [zv s p _ rfl,ha] at ip
   have wZ:=zh ip
   have HF:=fun W (h:cM W)=>Ft (s.extract (p+a) s.size) W (by rw [ByteArray.size_extract];omega) h
   rw [zv s (p+a) _ rfl,XH] at HF
   simp only at HF
   have Oy:=zh HF
   have HW:=zh (fun W=>EZ k hk5 (s.extract (p+a) (p+a+z)) W (by rw [ByteArray.size_extract];omega))
   obtain⟨n,hn⟩:∃n,bg k (s.extract (p+a) (p+a+z)).data.toList=n:=⟨_,rfl⟩
   rw [hn] at HW
   have kA:=zh qK;have HN:=zh hn;have gM:=zh si
   have rC:IntKind.i64.wrap ((p:Int)+(a:Int))=(p:Int)+(a:Int):=IntWalk.i64_in _ (by omega)
   have eE:IntKind.i64.wrap ((p:Int)+(a:Int)+(z:Int))=(p:Int)+(a:Int)+(z:Int):=IntWalk.i64_in _ (by omega)
   clear ha XH si qK hn ip HF
   go_wp2_with fail
   refine wZ.out.mono ?_
   rintro e w1 ⟨rfl,bI⟩
   have cZ:=zh (aa HG.out bI)
   have ot:=zh (HO.out.kept bI)
   clear bI
   go_wp2_with fail
   refine(Oy.out w1 (gf.out.kept (aa lO.out cZ.out))).mono ?_
   rintro e w2 ⟨rfl,rfl⟩
   go_wp2_with fail
   refine(HW.out w1).mono ?_
   rintro e w2 ⟨rfl,rfl⟩
   clear wZ Oy HW HG HO
   by_cases wv:n=0
   ·subst wv
    have zg:Hid (O.length≤1000000):=zh (by have:=HR.out.2.1;omega)
    have Tl:Hid (nf (aY (s.data.toList.drop p) p) = [.int .i64 (k:Int),.string (s.extract p (p+a)),.string (s.extract (p+a) (p+a+z)),.int .i64 ((p:Int)+(a:Int))]):=zh (by rw [kA.out];rfl)
    by_cases hk:k=5
    ·subst hk
     have Yl:Hid (ag s.data.toList=(O++[aY (s.data.toList.drop p) p],0,0)):=zh (HR.out.done (by rw [kA.out];exact HN.out) (by rw [kA.out]))
     go_wp2_with (at_builtin;go_loud (refine mE (t:=39) (T:=105) Tryz.underlying39 JR rfl (by omega) rfl _ _ rfl w0.heap.size O (aY (s.data.toList.drop p) p) _ _ _ _ Tl.out u4 rfl ot.out _ rfl rfl zg.out cZ.out.size ?_))
     intro g' bH w6 hO6 SK
     have OU:=zh hO6
     have dQ:Hid (w0.grownBy w6 none):=zh (bz (Below.trans2 (df cZ.out) SK))
     clear hO6 SK ot
     obtain⟨q,c,hq,hqt,zT,sG,hqb⟩:=OU.out.is
     injection hq with TV hq2 hq3
     subst TV;subst hq3
     rw [List.length_append,List.length_singleton] at zT
     have HQT:=zh hqt;have HC:=zh zT;have TK:=zh sG;have HQB:=zh hqb
     have ky:Hid ((O++[aY (s.data.toList.drop p) p]).length=O.length+1):=zh (by simp)
     have Jq:=zh (bx dQ.out Z0.out)
     obtain⟨c0,c1,cf⟩:=ah Jq.out
     clear hqt zT sG hqb hq2
     go_wp2_with fail
     have akx:w.heap.size<w6.heap.size:=by have:=RP.out;have:=dQ.out.size;omega
     have bl:∀a,some (⟨g',0,none⟩:Addr)=some a→w.heap.size<a.block:=fun a ha=>by
      have:=HQB.out (by simp) a ha;have:=RP.out;omega
     refine bodyPost_ret (v:=.tuple #[.slice (some ⟨g',0,none⟩) (O.length+1) bH,.agg #[.int .i64 0,.int .i64 0]]) (by simp [results,Tryz.results38,go_sem,c0,c1]) rfl ?_
     rw [←ky.out]
     refine Je abC.out Yl.out ?_ rfl ?_ ?_ TK.out
     ·exact bz (((df (aa lO.out dQ.out)).setCell (by simp) _).setCell (by simp) _)
     ·exact(HQT.out.setBox (fun _=>bl) _ _).setBox (fun _=>bl) _ _
     ·rw [ky.out];exact HC.out
    ·have d5:((k:Int) == 5)=false:=beq_eq_false_iff_ne.2 (by omega)
     obtain⟨tP,iO⟩:=HR.out.more (by rw [kA.out];exact HN.out) (by rw [kA.out];exact hk)
     rw [gM.out] at tP iO
     have IO:=zh tP
     clear tP
     go_wp2_with (at_builtin;go_loud (refine mE (t:=39) (T:=105) Tryz.underlying39 JR rfl (by omega) rfl _ _ rfl w0.heap.size O (aY (s.data.toList.drop p) p) _ _ _ _ Tl.out u4 rfl ot.out _ rfl rfl zg.out cZ.out.size ?_))
     intro g' bH w6 hO6 SK
     have OU:=zh hO6
     have dQ:Hid (w0.grownBy w6 none):=zh (bz (Below.trans2 (df cZ.out) SK))
     clear hO6 SK ot
     go_wp2_with fail
     go_roundw
     case rel=>exact⟨p+(a+z),_,by omega,qJ (by omega),IO,OU,dQ⟩
     case measure=>(simp [intOf]<;>omega)
   ·have d1:((n:Int) == 0)=false:=beq_eq_false_iff_ne.2 (by omega)
    have d2:((n:Int) != 0)=true:=by rw [bne,d1];rfl
    have HFA:Hid ((ag s.data.toList).2=(n,p+a)):=zh (by
     have:=HR.out.fault (by rw [kA.out];simp only;rw [HN.out];exact wv)
     rw [kA.out] at this
     simp only at this
     rw [HN.out] at this;exact this)
    have Jq:=zh (bx cZ.out Z0.out)
    obtain⟨c0,c1,cf⟩:=ah Jq.out
    go_wp2_with fail
    refine bodyPost_ret (v:=.tuple #[.slice none 0 0,.agg #[.int .i64 (n:Int),.int .i64 ((p:Int)+(a:Int))]]) (by simp [results,Tryz.results38,go_sem,c0,c1]) rfl (Dg (p:=p+a) abC.out HFA.out wv ?_ rfl)
    exact bz (((df (aa lO.out cZ.out)).setCell (by simp) _).setCell (by simp) _)
def bV (l:List Tok):List UInt8:=l.flatMap fun t=>t.lead++t.text
theorem nD (l r:List Tok):bV (l++r)=bV l++bV r:=by unfold bV;rw [List.flatMap_append]
theorem rl {l:List Tok} {k:Nat} {t:Tok} (h:l[k]? = some t):bV (l.take (k+1))=bV (l.take k)++t.lead++t.text:=by
 rw [List.take_add_one,h,nD];simp [bV]
theorem jS (l:List Tok) (k:Nat):(bV (l.take k)).length≤(bV l).length:=by
 have h1:bV l=bV (l.take k)++bV (l.drop k):=by rw [←nD,List.take_append_drop]
 rw [h1,List.length_append];omega
theorem rK (x:List UInt8):Lib.strCells ⟨x.toArray⟩=Lib.byteCells x:=rfl
def Nr (t:iN):List Value:=[.int .i64 t.kind,aw t.lead,aw t.text,.int .i64 t.pos]
def bo (l:List Int):List Value:=l.map (Value.int .i64)
def ndV (K:Nat→Option Addr×Nat) (i:Nat) (x:Nd):List Value:=[.int .i64 x.kind,.int .i64 x.tok,.slice (K i).1 x.kids.length (K i).2]
def l8 (K:Nat→Option Addr×Nat) (N:List Nd):List (List Value):=N.mapIdx (ndV K)
def EJ (T:List iN):List (List Value):=T.map Nr
def Ei (w:World) (N:List Nd) (K:Nat→Option Addr×Nat):Prop:=∀(i:Nat) (x:Nd),N[i]? = some x→VAt w (K i).1 (bo x.kids)
def aE (w:World) (p:Option Addr) (N:List Nd) (K:Nat→Option Addr×Nat):Prop:=GAt 3 w p (l8 K N)∧Ei w N K
def eQ (w:World) (p:Option Addr) (T:List iN):Prop:=GAt 4 w p (EJ T)
theorem aE.kept {w w':World} {p:Option Addr} {N:List Nd} {K:Nat→Option Addr×Nat} (h:aE w p N K) (hg:w.grownBy w' none):aE w' p N K:=⟨h.1.kept hg,fun i x hx=>(h.2 i x hx).kept hg⟩
theorem eQ.kept {w w':World} {p:Option Addr} {T:List iN} (h:eQ w p T) (hg:w.grownBy w' none):eQ w' p T:=GAt.kept h hg
theorem dW (l:List Int):(bo l).length=l.length:=List.length_map _
theorem mT (l:List Int):∀u∈bo l,u.oneCell'=true:=fun u hu=>by obtain⟨x,-,rfl⟩:=List.mem_map.1 hu;rfl
theorem yL (a b:List Int):bo (a++b)=bo a++bo b:=List.map_append
theorem IW {l:List Int} {j:Nat} {x:Int} (h:l[j]? = some x):(bo l)[j]? = some (.int .i64 x):=by unfold bo;rw [List.getElem?_map,h];rfl
theorem mY {w:World} {p:Option Addr} {N:List Nd} {K:Nat→Option Addr×Nat} (h:aE w p N K) {n:Nat} {x:Nd} (hx:N[n]? = some x):∃g off,p=some ⟨g,off,none⟩∧g<w.heap.size∧
  w.cell? ⟨g,off+n*3,none⟩=some (.int .i64 x.kind)∧w.cell? ⟨g,off+n*3+1,none⟩=some (.int .i64 x.tok)∧w.cell? ⟨g,off+n*3+2,none⟩=some (.slice (K n).1 x.kids.length (K n).2):=by
 have h1:(l8 K N)[n]? = some (ndV K n x):=by unfold l8;rw [List.getElem?_mapIdx,hx];rfl
 obtain⟨g,off,rfl,hl,hc⟩:=h.1.resolve_left (fun h0=>by rw [h0] at h1;simp at h1)
 exact⟨g,off,rfl,hl,hc n _ h1 0 _ rfl,hc n _ h1 1 _ rfl,hc n _ h1 2 _ rfl⟩
theorem De {w:World} {p:Option Addr} {T:List iN} (h:eQ w p T) {n:Nat} {t:iN} (hx:T[n]? = some t):∃g off,p=some ⟨g,off,none⟩∧g<w.heap.size∧
  w.cell? ⟨g,off+n*4,none⟩=some (.int .i64 t.kind)∧w.cell? ⟨g,off+n*4+1,none⟩=some (aw t.lead)∧w.cell? ⟨g,off+n*4+2,none⟩=some (aw t.text)∧w.cell? ⟨g,off+n*4+3,none⟩=some (.int .i64 t.pos):=by
 have h1:(EJ T)[n]? = some (Nr t):=by unfold EJ;rw [List.getElem?_map,hx];rfl
 obtain⟨g,off,rfl,hl,hc⟩:=Or.resolve_left h (fun h0=>by rw [h0] at h1;simp at h1)
 exact⟨g,off,rfl,hl,hc n _ h1 0 _ rfl,hc n _ h1 1 _ rfl,hc n _ h1 2 _ rfl,hc n _ h1 3 _ rfl⟩
theorem gW {w:World} {p:Option Addr} {l:List Int} (h:VAt w p (bo l)) {j:Nat} {x:Int} (hx:l[j]? = some x):∃g off,p=some ⟨g,off,none⟩∧g<w.heap.size∧w.cell? ⟨g,off+j,none⟩=some (.int .i64 x):=by
 have h1:=IW hx
 obtain⟨g,off,rfl,hl,hc⟩:=h.resolve_left (fun h0=>by rw [h0] at h1;simp at h1)
 exact⟨g,off,rfl,hl,hc j _ h1⟩
theorem Ts:(Tryz.prog.info? 3).map (fun i=>(i.zero,i.size,i.bytes))=some (some (.int .i64 0),1,8):=by kernel_rfl
set_option maxHeartbeats 4000000
def okB (n:Nat) (l:List Int):Bool:=l.all fun k=>decide (0≤k∧k<(n:Int))
theorem uG {n:Nat} {l:List Int} (h:∀k∈l,0≤k∧k<(n:Int)):okB n l=true:=by
 unfold okB;rw [List.all_eq_true];exact fun k hk=>zd (h k hk)
theorem mM {n:Nat} {l:List Int} {j:Nat} {x:Int} (hx:l[j]? = some x) (h:¬(0≤x∧x<(n:Int))):okB n l=false:=by
 unfold okB;rw [List.all_eq_false];exact⟨x,List.mem_of_getElem? hx,by simpa using h⟩
theorem rs (n:Nat) (l:List Int) (p:Option Addr) (c:Nat) (w:World) (hn:n≤1000000) (hl:l.length≤1000000) (h:VAt w p (bo l)):
  Calls Tryz.prog 84 #[.int .i64 (n:Int),.slice p l.length c] w (aR (.bool (okB n l)) w):=by
 obtain⟨m,hm⟩:∃m,l.length=m:=⟨_,rfl⟩
 have HM:=zh hm
 have HV:=zh h
 rw [hm] at hl ⊢
 clear hm h
 go_enter Tryz.func84,Tryz.ntmps84
 go_wp2_with fail
 go_loopw [9] (fun v wr=>∃k:Nat,k≤m∧v=.int .i64 k∧wr=w∧Hid (∀(j:Nat) (x:Int),j<k→l[j]? = some x→0≤x∧x<(n:Int))) (fun v _=>m - (intOf v).toNat)
 case atStart=>exact⟨0,Nat.zero_le _,rfl,rfl,zh (fun j x h=>by omega)⟩
 case round=>
  obtain⟨k,hk,rfl,rfl,HK⟩:=hrel
  by_cases hlt:k<m
  ·have d1:decide ((k:Int)<(m:Int))=true:=zd (by omega)
   have uR:decide (k<m)=true:=zd hlt
   obtain⟨x,hx⟩:∃x,l[k]? = some x:=⟨l[k]'(by rw [HM.out];exact hlt),List.getElem?_eq_getElem _⟩
   obtain⟨g,off,rfl,gc,c0⟩:=gW HV.out hx
   have HX:=zh hx
   clear hx
   by_cases h0:x<0
   ·have d2:decide (x<0)=true:=zd h0
    go_wp2_with fail
    go_ret
    exact⟨by rw [mM HX.out (by omega)];rfl,ad _ _⟩
   ·have d2:decide (x<0)=false:=decide_eq_false h0
    by_cases h1:(n:Int)≤x
    ·have d3:decide ((n:Int)≤x)=true:=zd h1
     go_wp2_with fail
     go_ret
     exact⟨by rw [mM HX.out (by omega)];rfl,ad _ _⟩
    ·have d3:decide ((n:Int)≤x)=false:=decide_eq_false h1
     go_wp2_with fail
     go_roundw
     case rel=>exact⟨k+1,by omega,by go_num,by first | rfl | trivial,zh (fun j y hj hy=>by
      by_cases e:j=k
      ·subst e;rw [HX.out] at hy;cases hy;omega
      ·exact HK.out j y (by omega) hy)⟩
     case measure=>(simp [intOf]<;>omega)
  ·obtain rfl:k=m:=by omega
   go_wp2_with fail
   go_ret
   exact⟨by rw [uG fun y hy=>by
    obtain⟨j,hj⟩:=List.getElem?_of_mem hy
    have:=(List.getElem?_eq_some_iff.1 hj).1
    rw [HM.out] at this
    exact HK.out j y this hj];rfl,ad _ _⟩
section
variable {w w':World} {g M:Nat} {f:Nat→Value}
end
theorem Na (pt pn:Option Addr) (mt ct M cn:Nat) (hM:0<M) (hM2:M≤1000000) (w:World):
  Calls Tryz.prog 50 #[.agg #[.slice pt mt ct,.slice pn M cn]] w (aR (.int .i64 ((M - 1:Nat):Int)) w):=by
 have rC:IntKind.i64.wrap ((M:Int) - 1)=((M - 1:Nat):Int):=by rw [IntWalk.i64_in _ (by omega)];omega
 go_enter Tryz.func50,Tryz.ntmps50
 go_wp2_with fail
 go_ret
 exact⟨rfl,World.grownBy_alloc w _ none⟩
end Go.Proofs.YtjbgnopnehgbaaaGreatDoor
namespace Go.Proofs.YtjbgnopnehgbaaaGreatDoor
open Go.RowKit
theorem ak.keptF {S:Nat→Prop} {s:Nat} {T:TypeId} {w w':World} {base:Nat} {v:Value} {l:List (List Value)} (h:ak s T w base v l) (hf:Fr2 S w w') (hS:∀k,v.ownBlock=some k→¬S k):ak s T w' base v l:=
 ⟨⟨h.1.1,h.1.2.imp id fun ⟨g,cap,fp,e,hb,hh,r⟩=>⟨g,cap,fp,e,hb,hf.keep hh (hS g (by rw [e];rfl)),r⟩⟩,h.2⟩
theorem ak.keptR {row:Option Nat} {s:Nat} {T:TypeId} {w w':World} {base:Nat} {v:Value} {l:List (List Value)} (h:ak s T w base v l) (hf:w.grownBy w' row) (hS:∀k,v.ownBlock=some k→row≠some k):ak s T w' base v l:=
 h.keptF (Fr2.of (S:=fun k=>row=some k) hf (fun _ e=>e)) hS
theorem ak.at {s:Nat} {T:TypeId} {w:World} {base:Nat} {v:Value} {l:List (List Value)} (h:ak s T w base v l):∀k,v.ownBlock=some k→base≤k∧k<w.heap.size:=h.1.lt
def Sep (a b:Value):Prop:=∀k,a.ownBlock=some k→b.ownBlock≠some k
theorem Sep.symm {a b:Value} (h:Sep a b):Sep b a:=fun k h1 h2=>h k h2 h1
section
variable {s:Nat} {t T:TypeId} {z:Value} {by':Nat}
theorem el (Jv:0<s) (ht:Tryz.prog.underlying t=some (.slice T)) (hT:(Tryz.prog.info? T).map (fun i=>(i.zero,i.size,i.bytes))=some (some z,s,by')) (hz:z.cells.size=s) (hby:by'≤1000)
  {W:World} {ops:Array Oper} {rest:List Oper} {o:Oper} {a:Act} {Q:Exit→Act→World→Prop} (eO:o.guard=none) (os ox:Operand) (ho:o.op=.call { callee:=.builtin .append,args:=#[os,ox],argTypes:=#[t,t] })
  (base:Nat) (l:List (List Value)) (y:List Value) (jL:y.length=s) (TZ:∀u∈y,u.oneCell'=true) (v:Value) (hs:a.eval os=v) (ey:ak s T W base v l) (H:Nat) (arr:Array Value) (harr:arr=y.toArray) (lB:W.heap[H]? = some (.cells arr T (0,0))) (hx:a.eval ox=.slice (some ⟨H,0,none⟩) 1 1) (hn:l.length≤1000000) (gq:base≤W.heap.size) (H':Nat) (hH':W.heap.size=H')
  (K:∀g' bH w',ak s T w' base (.slice (some ⟨g',0,none⟩) (l.length+1) bH) (l++[y])→W.grownBy w' v.ownBlock→(v.ownBlock=some g'∨g'=H')→wpList Tryz.prog ops Q rest (a.put o.dst (.slice (some ⟨g',0,none⟩) (l.length+1) bH)) w'):
  wpList Tryz.prog ops Q (o::rest) a W:=by
 subst harr
 obtain⟨i0,hi,JF,Ha,D5⟩:=info_parts hT
 have hb:(l.length+1)*by'≤140737488355328:=by
  have:(l.length+1)*by'≤(l.length+1)*1000:=Nat.mul_le_mul_left _ hby
  omega
 refine wpList_append_lies (P:=Tryz.prog) W eO os ox t ho base T i0 z s by' ht hi JF Ha D5 hz Jv v l.length l.flatten hs ey.1 ⟨H,0,none⟩ 1 1 y hx (by omega) ?_ TZ (by omega) (by unfold maxLen;omega) hb gq H' hH' ?_
 ·intro j u hj
  rw [Addr.add_lit,cell_of_row _ H _ _ _ (0,0) lB]
  rw [Nat.zero_add,List.getElem?_toArray];exact hj
 ·intro g' bH w' h3 h4 h5 _
  refine K g' bH w' ⟨by simpa using h3,fun q hq=>?_⟩ h4 h5
  rcases List.mem_append.1 hq with hq | hq
  ·exact ey.2 q hq
  ·simp at hq;subst hq;exact⟨jL,TZ⟩
theorem fc (Jv:0<s) (ht:Tryz.prog.underlying t=some (.slice T)) (hT:(Tryz.prog.info? T).map (fun i=>(i.zero,i.size,i.bytes))=some (some z,s,by')) (hz:z.cells.size=s) (hby:by'≤1000)
  {W:World} {ops:Array Oper} {o:Oper} {a:Act} {K:Act→World→Prop} {Q:Exit→Act→World→Prop} {E:Prop} (eO:o.guard=none) (os ox:Operand) (ho:o.op=.call { callee:=.builtin .append,args:=#[os,ox],argTypes:=#[t,t] })
  (base:Nat) (l:List (List Value)) (y:List Value) (jL:y.length=s) (TZ:∀u∈y,u.oneCell'=true) (v:Value) (hs:a.eval os=v) (ey:ak s T W base v l) (H:Nat) (arr:Array Value) (harr:arr=y.toArray) (lB:W.heap[H]? = some (.cells arr T (0,0))) (hx:a.eval ox=.slice (some ⟨H,0,none⟩) 1 1) (hn:l.length≤1000000) (gq:base≤W.heap.size) (H':Nat) (hH':W.heap.size=H')
  (K':∀g' bH w',ak s T w' base (.slice (some ⟨g',0,none⟩) (l.length+1) bH) (l++[y])→W.grownBy w' v.ownBlock→(v.ownBlock=some g'∨g'=H')→K (a.put o.dst (.slice (some ⟨g',0,none⟩) (l.length+1) bH)) w'):
  if Region.wanted o (yielded ops a.tmps)=true then Oper.wp Tryz.prog o a W K Q else E:=by
 subst harr
 obtain⟨i0,hi,JF,Ha,D5⟩:=info_parts hT
 have hb:(l.length+1)*by'≤140737488355328:=by
  have:(l.length+1)*by'≤(l.length+1)*1000:=Nat.mul_le_mul_left _ hby
  omega
 refine step_append_lies (P:=Tryz.prog) W eO os ox t ho base T i0 z s by' ht hi JF Ha D5 hz Jv v l.length l.flatten hs ey.1 ⟨H,0,none⟩ 1 1 y hx (by omega) ?_ TZ (by omega) (by unfold maxLen;omega) hb gq H' hH' ?_
 ·intro j u hj
  rw [Addr.add_lit,cell_of_row _ H _ _ _ (0,0) lB]
  rw [Nat.zero_add,List.getElem?_toArray];exact hj
 ·intro g' bH w' h3 h4 h5 _
  refine K' g' bH w' ⟨by simpa using h3,fun q hq=>?_⟩ h4 h5
  rcases List.mem_append.1 hq with hq | hq
  ·exact ey.2 q hq
  ·simp at hq;subst hq;exact⟨jL,TZ⟩
end
def pR (w:World) (base:Nat) (v:Value) (l:List Int):Prop:=ak 1 3 w base v (one (bo l))
theorem pR.parts {w:World} {base:Nat} {v:Value} {l:List Int} (h:pR w base v l):∃p c,v=.slice p l.length c∧VAt w p (bo l)∧l.length≤c∧c≤maxLen∧(l≠[]→∀a,p=some a→base≤a.block):=by
 obtain⟨p,c,e,h1,h2,h3,h4⟩:=ak.is h
 rw [mK,dW] at e h2
 exact⟨p,c,e,Yc h1,h2,h3,fun hl=>h4 (fun h0=>hl (by
  have:=congrArg List.length h0
  rw [mK,dW] at this
  exact List.length_eq_zero_iff.1 this))⟩
theorem pR.nil (w:World) (base:Nat):pR w base (.slice none 0 0) []:=ak.nil _ _ _ _
end Go.Proofs.YtjbgnopnehgbaaaGreatDoor
namespace Go.Proofs.YtjbgnopnehgbaaaGreatDoor
open Go.RowKit
theorem Mp:(Tryz.prog.info? 3).map (fun i=>(i.zero,i.size,i.bytes))=some (some (.int .i64 0),1,8):=Ts
set_option maxHeartbeats 16000000
theorem iq {w:World} {r:Nat} {a b c d:Value} {T:TypeId} (h:w.heap[r]? = some (.cells #[a,b,c,d] T (0,0))):w.cell? ⟨r,0,none⟩=some a∧w.cell? ⟨r,1,none⟩=some b∧w.cell? ⟨r,2,none⟩=some c∧w.cell? ⟨r,3,none⟩=some d∧∀o,w.frozen? ⟨r,o,none⟩=false:=
 ⟨by rw [cell_of_row w r 0 _ T (0,0) h];rfl,by rw [cell_of_row w r 1 _ T (0,0) h];rfl,by rw [cell_of_row w r 2 _ T (0,0) h];rfl,by rw [cell_of_row w r 3 _ T (0,0) h];rfl,fun o=>by simp [World.frozen?,h]⟩
theorem tH (k p:Int) (x y:ByteArray) (w:World) (hx:x.size≤1000000) (hy:y.size≤1000000):
  Calls Tryz.prog 74 #[.agg #[.int .i64 k,.string x,.string y,.int .i64 p]] w (aR (.agg #[.int .i64 k,.string x,.string y,.int .i64 p]) w):=by
 have HX:=zh (fun W=>yO x W (by omega))
 have HY:=zh (fun W=>yO y W (by omega))
 clear hx hy
 go_enter Tryz.func74,Tryz.ntmps74
 go_wp2_with fail
 have hA:=heap_alloc_new w (.cells #[.int .i64 k,.string x,.string y,.int .i64 p] 105)
 have lF:=World.grownBy_alloc w (.cells #[.int .i64 k,.string x,.string y,.int .i64 p] 105) none
 have BI:(w.alloc (.cells #[.int .i64 k,.string x,.string y,.int .i64 p] 105)).heap.size=w.heap.size+1:=by simp
 generalize (w.alloc (.cells #[.int .i64 k,.string x,.string y,.int .i64 p] 105))=W1 at *
 have hB:=heap_alloc_new W1 (.cells #[.int .i64 0,.string ⟨#[]⟩,.string ⟨#[]⟩,.int .i64 0] 105)
 have oZ:=World.grownBy_alloc W1 (.cells #[.int .i64 0,.string ⟨#[]⟩,.string ⟨#[]⟩,.int .i64 0] 105) none
 rw [BI] at hB
 generalize (W1.alloc (.cells #[.int .i64 0,.string ⟨#[]⟩,.string ⟨#[]⟩,.int .i64 0] 105))=W at *
 obtain⟨b,hb⟩:∃b,w.heap.size=b:=⟨_,rfl⟩
 have mD:=zh hb
 rw [hb] at hA hB ⊢
 obtain⟨b1,fw⟩:∃x,b+1=x:=⟨_,rfl⟩
 rw [fw] at hB ⊢
 have hlt:b<b1:=by omega
 have HA:=zh (bx oZ hA);have HB:=zh hB;have lO:=zh (aa lF oZ)
 clear hA hB lF oZ BI hb fw
 obtain⟨a0,a1,a2,a3,a4⟩:=iq HA.out
 go_region_with (first
  | (go_at_call 69;refine(HX.out _).mono ?_;rintro e w2 ⟨rfl,bT⟩;clear HX;have Ph:=zh (bx (o:=.cells #[.int .i64 k,.string x,.string y,.int .i64 p] 105) bT (by first | exact HA.out | exact Ri.out | exact ab (i:=2) (u:=.string y) Ri.out));obtain⟨c0,c1,c2,c3,c4⟩:=iq Ph.out;have es:Hid (Fr2 (fun k=>k=b) W w2):=zh (Fr2.trans (by first | exact jp.out | exact jp.out.setCell rfl _ | exact Fr2.none (by repeat (first | with_reducible exact ad _ _ | with_reducible refine aF ?_))) (Fr2.none bT));clear bT)
  | (go_at_call 69;refine(HY.out _).mono ?_;rintro e w3 ⟨rfl,fM⟩;clear HY;have Ri:=zh (bx (o:=.cells #[.int .i64 k,.string x,.string y,.int .i64 p] 105) fM (by first | exact HA.out | exact Ph.out | exact ab (i:=1) (u:=.string x) Ph.out));obtain⟨d0,d1,d2,d3,d4⟩:=iq Ri.out;have jp:Hid (Fr2 (fun k=>k=b) W w3):=zh (Fr2.trans (by first | exact es.out | exact es.out.setCell rfl _ | exact Fr2.none (by repeat (first | with_reducible exact ad _ _ | with_reducible refine aF ?_))) (Fr2.none fM));clear fM))
 all_goals
  have HA4:=zh (show((w3.setCell ⟨b,1,none⟩ (.string x)).setCell ⟨b,2,none⟩ (.string y)).heap[b]? = some (.cells #[.int .i64 k,.string x,.string y,.int .i64 p] 105 (0,0)) from ab (i:=2) (u:=.string y) (ab (i:=1) (u:=.string x) Ri.out))
  have vj:=zh ((jp.out.setCell (g:=b) (j:=1) rfl (.string x)).setCell (g:=b) (j:=2) rfl (.string y))
  have Ju:=zh (vj.out.keep HB.out (by omega))
  generalize ((w3.setCell ⟨b,1,none⟩ (.string x)).setCell ⟨b,2,none⟩ (.string y))=W4 at *
  clear HA HB a0 a1 a2 a3 a4 c0 c1 c2 c3 c4 d0 d1 d2 d3 d4 Ph Ri es jp
  obtain⟨a0,a1,a2,a3,a4⟩:=iq HA4.out
  obtain⟨c0,c1,c2,c3,c4⟩:=iq Ju.out
  have SQ:=zh (ab (i:=3) (u:=.int .i64 p) (ab (i:=2) (u:=.string y) (ab (i:=1) (u:=.string x) (ab (i:=0) (u:=.int .i64 k) Ju.out))))
  have zl:=zh (((((vj.out.mono (S':=fun k=>k=b∨k=b1) (fun _ h=>.inl h)).setCell (g:=b1) (j:=0) (.inr rfl) (.int .i64 k)).setCell (g:=b1) (j:=1) (.inr rfl) (.string x)).setCell (g:=b1) (j:=2) (.inr rfl) (.string y)).setCell (g:=b1) (j:=3) (.inr rfl) (.int .i64 p))
  go_wp2_with fail
  obtain⟨k0,k1,k2,k3,-⟩:=iq SQ.out
  refine bodyPost_ret (v:=.agg #[.int .i64 k,.string x,.string y,.int .i64 p]) (by simp [results,Tryz.results74,go_sem,k0,k1,k2,k3]) rfl ⟨rfl,Fr2.after lO.out zl.out (fun j hj=>by rw [mD.out];omega)⟩
end Go.Proofs.YtjbgnopnehgbaaaGreatDoor
