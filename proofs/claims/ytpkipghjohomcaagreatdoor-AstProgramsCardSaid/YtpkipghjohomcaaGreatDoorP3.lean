/- Lemmas. -/
import Derived.LoopIn
import Derived.LoopNIn
import Derived.Maps.OwnIn
import Derived.RangeFuncBound
import Derived.RangeFuncNested
import Derived.Shelf.RegionOpen
import Derived.Shelf.Spec.BitsCarry
import Derived.Test.YtpkipghjohomcaaGreatDoorP1
set_option linter.unusedVariables false
set_option linter.unusedSimpArgs false
set_option maxHeartbeats 8000000
set_option maxRecDepth 100000
namespace Go.Proofs.YtpkipghjohomcaaGreatDoor
open Go.RowKit List Nat Go.World
def bp (v:Value) (w:World) (e:Ending) (m:World):Prop:=e=.returned v/\w.grownBy m none
theorem n6 (s:ByteArray) (w:World) (B:s.size<=281474976710656):Calls Tryz.prog 32 #[.string s] w (bp (.string s) w):=by
 have H:=zh (Tryz.stringslite_Clone s w B)
 go_enter Tryz.func32,Tryz.ntmps32
 go_wp2_with fail
 refine H.mono ?_
 rintro E G ⟨rfl,m⟩
 have A:=zh m
 clear m
 go_wp2_with fail
 go_ret
 exact⟨rfl,bj A⟩
def uI (l:List UInt8) (w:World) (e:Ending) (B:World):Prop:=
 w.grownBy B none/\if 65536<l.length then e=.returned (.tuple #[.slice none 0 0,.agg #[.int .i64 11,.int .i64 0]])
  else if (ai l).2.1≠0 then e=.returned (.tuple #[.slice none 0 0,.agg #[.int .i64 ((ai l).2.1:Nat),.int .i64 ((ai l).2.2:Nat)]])
  else ∃A m,e=.returned (.tuple #[.slice A (ai l).1.length m,.agg #[.int .i64 0,.int .i64 0]])/\TAt B A (ai l).1/\(ai l).1.length<=m/\m<=maxLen
theorem KI (s:ByteArray) {p:Nat} (H:p<=s.size):∃a k z,sk false (s.data.toList.drop p)=a/\cy (s.data.toList.drop (p+a))=(k,z)/\k<=5/\p+a+z<=s.size/\f9 (s.data.toList.drop p)=a+z/\
  bI (s.data.toList.drop p) p=⟨k,(s.extract p (p+a)).data.toList,(s.extract (p+a) (p+a+z)).data.toList,p+a⟩:=by
 obtain⟨a,A⟩:=zx (sk false (s.data.toList.drop p))
 obtain⟨k,z,m⟩:∃k z,cy (s.data.toList.drop (p+a))=(k,z):=⟨_,_,rfl⟩
 have G:=tU (s.data.toList.drop p) false
 have B:=ot (s.data.toList.drop (p+a))
 have E:=(tB (s.data.toList.drop (p+a))).1
 rw [A,length_drop,aQ] at G
 rw [m] at B E
 rw [length_drop,aQ] at B
 simp only at B E
 refine⟨a,k,z,A,m,E,by omega,?_,?_⟩
 ·unfold f9;rw [A,drop_drop,m]
 ·unfold bI;rw [A,drop_drop,m,Da,Da]
theorem MS {s:ByteArray} {w m:World} {e:Ending} (E:65536<s.size) (B:w.grownBy m none) (A:e=.returned (.tuple #[.slice none 0 0,.agg #[.int .i64 11,.int .i64 0]])):uI s.data.toList w e m:=by
 refine⟨B,?_⟩
 rw [aQ,if_pos E];exact A
theorem E5 {s:ByteArray} {w m:World} {e:Ending} {n p:Nat} (H:¬ 65536<s.size) (B:(ai s.data.toList).2=(n,p)) (G:n≠0) (E:w.grownBy m none) (A:e=.returned (.tuple #[.slice none 0 0,.agg #[.int .i64 (n:Int),.int .i64 (p:Int)]])):uI s.data.toList w e m:=by
 refine⟨E,?_⟩
 rw [aQ,if_neg H,B,if_pos G];exact A
theorem KF {s:ByteArray} {w m:World} {e:Ending} {O:List Tok} {q:Option Addr} {c:Nat} (I:¬ 65536<s.size) (G:ai s.data.toList=(O,0,0)) (H:w.grownBy m none) (E:e=.returned (.tuple #[.slice q O.length c,.agg #[.int .i64 0,.int .i64 0]])) (J:TAt m q O) (A:O.length<=c) (B:c<=maxLen):uI s.data.toList w e m:=by
 refine⟨H,?_⟩
 rw [aQ,if_neg I,G,if_neg (by simp)];exact⟨q,c,E,J,A,B⟩
theorem Ui (s:ByteArray) (w:World) (hs:s.size<=1000000) (gP:fJ w):Calls Tryz.prog 43 #[.string s] w (uI s.data.toList w):=by
 by_cases ak:65536<s.size
 ·have d1:=zE ((65536:Int)<(s.size:Int))
  have ml:decide (65536<s.size)=true:=zd ak
  go_enter Tryz.func43,Tryz.ntmps43
  go_wp2_with fail
  refine bodyPost_ret (v:=.tuple #[.slice none 0 0,.agg #[.int .i64 11,.int .i64 0]]) (by simp [results,Tryz.results43,go_sem]) rfl (MS ak (qn w _ _) rfl)
 ·have d1:=zX ((65536:Int)<(s.size:Int))
  have ml:decide (65536<s.size)=false:=VW ak
  have au:=zh ak
  have iF:=zh gP
  have bB:=zh (YK w (.cells #[.int .i64 0,.int .i64 0] 29))
  have xC:=zh (qn w (.cells #[.int .i64 0,.int .i64 0] 29) none)
  clear gP
  go_enter Tryz.func43,Tryz.ntmps43
  go_wp2_with fail
  refine(n6 s _ (by omega)).mono ?_
  rintro ao E ⟨rfl,sP⟩
  have kD:=zh (aa xC sP)
  have aq:=zh (bx sP bB)
  have SS:Hid (w.heap.size<E.heap.size):=zh (by have:=sP.size;simp at this;omega)
  clear sP d1 ml bB xC
  go_wp2_with fail
  go_loopw [4,5] (fun ov pv wr=>∃(p:Nat) (O:List Tok),p<=s.size/\pv=.int .i64 p/\Hid (mV s.data.toList O p)/\Hid (pH 91 wr E.heap.size ov O)/\Hid (E.grownBy wr none)) (fun _ pv _=>s.size - (intOf pv).toNat)
  case atStart=>exact⟨0,[],zero_le _,rfl,zh (mV.start _),zh (pH.nil _ _ _),ad _ _⟩
  case round=>
   obtain⟨p,O,hp,rfl,Z,HO,HG⟩:=hrel
   obtain⟨m,L,G,ha,XU,aX,a2,Pb,rm⟩:=KI s hp
   have fc:=EZ (s.extract p s.size) wr (by rw [ByteArray.size_extract];omega)
   rw [Br s p _ rfl,ha] at fc
   have ur:=zh fc
   have U:=fun W (h:fJ W)=>Sk (s.extract (p+m) s.size) W (by rw [ByteArray.size_extract];omega) h
   rw [Br s (p+m) _ rfl,XU] at U
   simp only at U
   have Vo:=zh U
   have HW:=zh (fun W=>Rh L aX (s.extract (p+m) (p+m+G)) W (by rw [ByteArray.size_extract];omega))
   obtain⟨R,hn⟩:=zx (cK L (s.extract (p+m) (p+m+G)).data.toList)
   rw [hn] at HW
   have B:=zh rm;have Y:=zh hn;have ku:=zh Pb
   have a3:IntKind.i64.wrap ((p:Int)+(m:Int))=(p:Int)+(m:Int):=IntWalk.i64_in _ (by omega)
   have a4:IntKind.i64.wrap ((p:Int)+(m:Int)+(G:Int))=(p:Int)+(m:Int)+(G:Int):=IntWalk.i64_in _ (by omega)
   clear ha XU Pb rm hn fc U
   go_wp2_with fail
   refine ur.mono ?_
   rintro ao w1 ⟨rfl,cJ⟩
   have A:=zh (aa HG cJ)
   have zV:=zh (HO.kept cJ)
   clear cJ
   go_wp2_with fail
   refine(Vo w1 (iF.kept (aa kD A))).mono ?_
   rintro ao w2 ⟨rfl,rfl⟩
   go_wp2_with fail
   refine(HW w1).mono ?_
   rintro ao w2 ⟨rfl,rfl⟩
   clear ur Vo HW HG HO
   by_cases ap:R=0
   ·subst ap
    have Bf:Hid (O.length<=1000000):=zh (by have:=Z.2.1;omega)
    have GA:Hid (oK (bI (s.data.toList.drop p) p) = [.int .i64 (L:Int),.string (s.extract p (p+m)),.string (s.extract (p+m) (p+m+G)),.int .i64 ((p:Int)+(m:Int))]):=zh (by rw [B.out];rfl)
    by_cases hk:L=5
    ·subst hk
     have ay:Hid (ai s.data.toList=(O++[bI (s.data.toList.drop p) p],0,0)):=zh (Z.done (by rw [B.out];exact Y) (by rw [B.out]))
     go_wp2_with (at_builtin;go_loud (refine nT (t:=23) (T:=91) Tryz.underlying23 Ln rfl (by omega) rfl _ _ rfl E.heap.size O (bI (s.data.toList.drop p) p) _ _ _ _ GA u4 rfl zV _ rfl rfl Bf A.size ?_))
     intro g' cP w6 J H
     have SG:=zh J
     have I:Hid (E.grownBy w6 none):=zh (bj (Below.trans2 (dF A) H))
     clear J H zV
     obtain⟨a5,a1,hq,ax,uG,tA,av⟩:=SG.is
     injection hq with qq qp Pa
     subst qq;subst Pa
     rw [Q2,length_singleton] at uG
     have aO:=zh ax;have HC:=zh uG;have Xr:=zh tA;have aL:=zh av
     have fP:Hid ((O++[bI (s.data.toList.drop p) p]).length=O.length+1):=zh (by simp)
     have vD:=zh (bx I aq)
     obtain⟨c0,c1,cf⟩:=ac vD
     clear ax uG tA av qp
     go_wp2_with fail
     have a0:w.heap.size<w6.heap.size:=by have:=SS.out;have:=I.size;omega
     have bc:∀m,some (⟨g',0,none⟩:Addr)=some m->w.heap.size<m.block:=fun m ha=>by
      have:=aL (by simp) m ha;have:=SS.out;omega
     refine bodyPost_ret (v:=.tuple #[.slice (some ⟨g',0,none⟩) (O.length+1) cP,.agg #[.int .i64 0,.int .i64 0]]) (by simp [results,Tryz.results43,go_sem,c0,c1]) rfl ?_
     rw [<-fP.out]
     refine KF au ay.out ?_ rfl ?_ ?_ Xr
     ·exact bj (((dF (aa kD I)).setCell (by simp) _).setCell (by simp) _)
     ·exact(aO.setBox (fun _=>bc) _ _).setBox (fun _=>bc) _ _
     ·rw [fP.out];exact HC
    ·have d5:=yi (L:Int) 5
     obtain⟨Nw,j3⟩:=Z.more (by rw [B.out];exact Y) (by rw [B.out];exact hk)
     rw [ku.out] at Nw j3
     have xE:=zh Nw
     clear Nw
     go_wp2_with (at_builtin;go_loud (refine nT (t:=23) (T:=91) Tryz.underlying23 Ln rfl (by omega) rfl _ _ rfl E.heap.size O (bI (s.data.toList.drop p) p) _ _ _ _ GA u4 rfl zV _ rfl rfl Bf A.size ?_))
     intro g' cP w6 J H
     have SG:=zh J
     have I:Hid (E.grownBy w6 none):=zh (bj (Below.trans2 (dF A) H))
     clear J H zV
     go_wp2_with fail
     go_roundw
     case rel=>exact⟨p+(m+G),_,by omega,sS (by omega),xE,SG,I⟩
     case measure=>(simp [intOf]<;>omega)
   ·have d1:=yi (R:Int) 0
    have d2:((R:Int) != 0)=true:=by rw [bne,d1];rfl
    have aJ:Hid ((ai s.data.toList).2=(R,p+m)):=zh (by
     have:=Z.fault (by rw [B.out];simp only;rw [Y.out];exact ap)
     rw [B.out] at this
     simp only at this
     rw [Y.out] at this;exact this)
    have vD:=zh (bx A aq)
    obtain⟨c0,c1,cf⟩:=ac vD
    go_wp2_with fail
    refine bodyPost_ret (v:=.tuple #[.slice none 0 0,.agg #[.int .i64 (R:Int),.int .i64 ((p:Int)+(m:Int))]]) (by simp [results,Tryz.results43,go_sem,c0,c1]) rfl (E5 (p:=p+m) au aJ ap ?_ rfl)
    exact bj (((dF (aa kD A)).setCell (by simp) _).setCell (by simp) _)
open Go.RowKit List
def cq (l:List Tok):List UInt8:=l.flatMap fun m=>m.lead++m.text
theorem pe (l r:List Tok):cq (l++r)=cq l++cq r:=by unfold cq;rw [flatMap_append]
theorem tE {l:List Tok} {k:Nat} {t:Tok} (h:l[k]? = some t):cq (l.take (k+1))=cq (l.take k)++t.lead++t.text:=by
 rw [take_add_one,h,pe];simp [cq]
theorem kP (l:List Tok) (k:Nat):(cq (l.take k)).length<=(cq l).length:=by
 have m:cq l=cq (l.take k)++cq (l.drop k):=by rw [<-pe,take_append_drop]
 rw [m,Q2];omega
theorem tV (x:List UInt8):Lib.strCells ⟨x.toArray⟩=Lib.byteCells x:=rfl
def Wid (s:Nat) (l:List (List Value)):Prop:=∀m∈l,m.length=s/\∀A∈m,A.oneCell'=true
theorem flat_get {s:Nat} {l:List (List Value)} (E:Wid s l):∀(j:Nat) (q:List Value),l[j]? = some q->∀(i:Nat) (v:Value),q[i]? = some v->l.flatten[j*s+i]? = some v:=by
 induction l with
 | nil=>intro j q h;simp at h
 | cons B l J=>
   intro j q m i v A
   have H:=(E B Yu).1
   rw [flatten_cons]
   match j,m with
   | 0,m=>
     simp at m;subst m
     rw [Nat.zero_mul,Nat.zero_add,getElem?_append_left (Q4.1 A).1];exact A
   | j+1,m=>
     have G:(j+1)*s+i=B.length+(j*s+i):=by rw [H,Nat.add_mul];omega
     rw [G,getElem?_append_right (by omega),Nat.add_sub_cancel_left]
     exact J (fun q I=>E q (Q1 _ I)) j q (by simpa using m) i v A
theorem jT {s:Nat} {l:List (List Value)} (m:Wid s l):l.flatten.length=l.length*s:=by
 induction l with
 | nil=>simp
 | cons A l E=>rw [flatten_cons,Q2,E fun G B=>m G (Q1 _ B),(m A Yu).1,hJ,Nat.add_mul];omega
def GAt (s:Nat) (w:World) (p:Option Addr) (l:List (List Value)):Prop:=
 l = []\/∃m E,p=some ⟨m,E,none⟩/\m<w.heap.size/\∀(B:Nat) (G:List Value),l[B]? = some G->∀(A:Nat) (H:Value),G[A]? = some H->w.cell? ⟨m,E+B*s+A,none⟩=some H
theorem GAt.kept {s:Nat} {w A:World} {p:Option Addr} {l:List (List Value)} (h:GAt s w p l) (m:w.grownBy A none):GAt s A p l:=by
 rcases h with h | ⟨B,O,rfl,I,E⟩
 ·exact .inl h
 ·exact .inr ⟨B,O,rfl,zn I m.size,fun L R H J U G=>m.cell (E L R H J U G) (by simp)⟩
theorem GAt.low {s:Nat} {w G:World} {p:Option Addr} {l:List (List Value)} {B:Nat} (h:GAt s w p l) (E:Below B w G) (H:l≠[]->∀a,p=some a->a.block<B):GAt s G p l:=by
 rcases h with h | ⟨m,Y,rfl,O,I⟩
 ·exact .inl h
 ·by_cases A:l = []
  ·exact .inl A
  ·exact .inr ⟨m,Y,rfl,zn O E.size,fun U Z L R ak J=>by rw [cell?_of_block (w:=w) (E.block m (H A _ rfl))];exact I U Z L R ak J⟩
theorem GAt.keptS {S:Nat->Prop} {s:Nat} {w H:World} {p:Option Addr} {l:List (List Value)} (h:GAt s w p l) (B:Fr2 S w H) (I:l≠[]->∀a,p=some a->¬S a.block):GAt s H p l:=by
 rcases h with h | ⟨m,G,rfl,E,J⟩
 ·exact .inl h
 ·by_cases A:l = []
  ·exact .inl A
  ·exact .inr ⟨m,G,rfl,zn E B.size,fun U Y O R Z L=>by rw [cell?_of_block (w:=w) (B.block m E (I A ⟨m,G,none⟩ rfl))];exact J U Y O R Z L⟩
theorem GAt.setBox {s:Nat} {w:World} {p:Option Addr} {l:List (List Value)} {b:Nat} (h:GAt s w p l) (E:l≠[]->∀a,p=some a->b<a.block) (j:Nat) (u:Value):GAt s (w.setCell ⟨b,j,none⟩ u) p l:=by
 rcases h with h | ⟨m,B,rfl,J,G⟩
 ·exact .inl h
 ·by_cases A:l = []
  ·exact .inl A
  ·have Y:b<m:=E A ⟨m,B,none⟩ rfl
   exact .inr ⟨m,B,rfl,by simpa [World.setCell] using J,fun O R I L U H=>by rw [cell?_of_block (w:=w) (Below.heap_setCell _ _ _ _ (by simp;omega))];exact G O R I L U H⟩
theorem GAt.blk {s:Nat} {w:World} {p:Option Addr} {l:List (List Value)} (h:GAt s w p l):l≠[]->∀a,p=some a->a.block<w.heap.size:=fun A a m=>by
 obtain⟨E,G,rfl,B,-⟩:=h.resolve_left A
 injection m with m;subst m;exact B
theorem GAt.nil {s:Nat} {w:World} {p:Option Addr}:GAt s w p []:=.inl rfl
def ag (s:Nat) (T:TypeId) (w:World) (base:Nat) (v:Value) (l:List (List Value)):Prop:=w.ownsRow base T s v l.length l.flatten/\Wid s l
theorem ag.nil (s:Nat) (T:TypeId) (w:World) (base:Nat):ag s T w base (.slice none 0 0) []:=⟨ownsRow_nil _ _ _ _,fun A m=>by simp at m⟩
theorem ag.kept {s:Nat} {T:TypeId} {w m:World} {base:Nat} {v:Value} {l:List (List Value)} (h:ag s T w base v l) (A:w.grownBy m none):ag s T m base v l:=⟨World.ownsRow.kept h.1 A (by
 cases B:v.ownBlock with
 | none=>exact .inl rfl
 | some E=>exact .inr (by simp)),h.2⟩
theorem ag.keptS {S:Nat->Prop} {s:Nat} {T:TypeId} {w A:World} {base:Nat} {v:Value} {l:List (List Value)} (h:ag s T w base v l) (I:Fr2 S w A) (H:∀g,base<=g->¬S g):ag s T A base v l:=
 ⟨⟨h.1.1,h.1.2.imp id fun ⟨g,B,G,E,m,J,L⟩=>⟨g,B,G,E,m,I.keep J (H g m),L⟩⟩,h.2⟩
theorem ag.is {s:Nat} {T:TypeId} {w:World} {base:Nat} {v:Value} {l:List (List Value)} (h:ag s T w base v l):∃p c,v=.slice p l.length c/\GAt s w p l/\l.length<=c/\c<=maxLen/\(l≠[]->∀a,p=some a->base<=a.block):=by
 rcases h.1.2 with ⟨rfl,I⟩ | ⟨B,A,ep,rfl,J,L,zC,xu,h1,h2⟩
 ·have:l = []:=fb I
  subst this
  exact⟨none,0,rfl,.inl rfl,Nat.le_refl _,by unfold maxLen;omega,fun h=>absurd rfl h⟩
 ·refine⟨_,A,rfl,.inr ⟨B,0,rfl,hlt L,fun Y Z R U v O=>?_⟩,zC,xu,fun _ a m=>by injection m with m;subst m;exact J⟩
  have E:=flat_get h.2 Y Z R U v O
  have H:w.ownsRow base T s (.slice (some ⟨B,0,none⟩) l.length A) l.length l.flatten:=h.1
  have G:=(Q4.1 E).1
  rw [jT h.2] at G
  rw [Nat.zero_add,H.cellAt _ G];exact E
theorem ag.lt {s:Nat} {T:TypeId} {w:World} {base:Nat} {v:Value} {l:List (List Value)} (h:ag s T w base v l) {p:Option Addr} {n c:Nat} (A:v=.slice p n c) (R:0<n):∃a,p=some a/\base<=a.block/\a.block<w.heap.size:=by
 rcases h.1.2 with ⟨m,O⟩ | ⟨L,I,J,m,G,H,-⟩
 ·rw [A] at m;injection m with m B E;omega
 ·rw [A] at m;injection m with m B E;subst m;exact⟨_,rfl,G,hlt H⟩
theorem tC {s:Nat} {t T:TypeId} {z:Value} {B:Nat} (Z:0<s) (ht:Tryz.prog.underlying t=some (.slice T)) (hT:(Tryz.prog.info? T).map (fun I=>(I.zero,I.size,I.bytes))=some (some z,s,B)) (hz:z.cells.size=s) (ao:B<=1000)
  {m:World} {Y:Array Oper} {rest:List Oper} {o:Oper} {a:Act} {Q:Exit->Act->World->Prop} (fe:o.guard=none) (os J:Operand) (ho:o.op=.call { callee:=.builtin .append,args:=#[os,J],argTypes:=#[t,t] })
  (base:Nat) (l:List (List Value)) (y:List Value) (kw:y.length=s) (U:∀u∈y,u.oneCell'=true) (v:Value) (hs:a.eval os=v) (R:ag s T m base v l) (H:Nat) (hH:m.heap.size=H) (hx:a.eval J=.slice (some ⟨H,0,none⟩) 1 1) (hn:l.length<=1000000) (gu:base<=m.heap.size) (O:Array Value) (ak:O=y.toArray)
  (K:∀g' G E,ag s T E base (.slice (some ⟨g',0,none⟩) (l.length+1) G) (l++[y])->Below base m E->wpList Tryz.prog Y Q rest (a.put o.dst (.slice (some ⟨g',0,none⟩) (l.length+1) G)) E):
  wpList Tryz.prog Y Q (o::rest) a (m.alloc (.cells O T)):=by
 subst hH;subst ak
 obtain⟨i0,hi,ap,aq,au⟩:=info_parts hT
 have L:=World.ownsRow.alloc R.1 (.cells y.toArray T)
 have hb:(l.length+1)*B<=140737488355328:=by
  have:(l.length+1)*B<=(l.length+1)*1000:=mul_le_mul_left _ ao
  omega
 refine wpList_append_lies (P:=Tryz.prog) _ fe os J t ho base T i0 z s B ht hi ap aq au hz Z _ l.length l.flatten hs L ⟨m.heap.size,0,none⟩ 1 1 y hx (by omega) ?_ U (by omega) (by unfold maxLen;omega) hb (by simp;omega) (m.heap.size+1) (by simp) ?_
 ·intro ax u hj
  rw [Addr.add_lit,hZ _ m.heap.size _ _ _ (0,0) (YK m _)]
  rw [Nat.zero_add,Q7];exact hj
 ·intro g' G E h3 h4 h5 _
  refine K g' G E ⟨by simpa using h3,fun av A=>?_⟩ (Below.trans2 (Below.gb (qn m _ none) gu) (sY L (by simp;omega) h4))
  rcases mem_append.1 A with A | A
  ·exact R.2 av A
  ·simp at A;subst A;exact⟨kw,U⟩
theorem mx {P:Program} {w:World} (base:Nat) (t E e:TypeId) (i:TypeInfo) (size:Nat) (A:P.underlying t=some (.slice e)) (m:P.info? e=some i)
  (v:Value) (n:Nat) (xs:List Value) (B:w.ownsRow base e size v n xs) (p:Option Addr) (c:Nat):
  (Builtin.append_ #[t,t] E #[v,.slice p 0 c]).run P w=.ok v w:=by
 rcases B.2 with ⟨rfl,rfl⟩ | ⟨J,H,I,rfl,_,_,G,_⟩
 ·cases p<;>simp [Builtin.append_,run_underlying A,sizeOf,typeInfo,m,Builtin.lenOf,Builtin.firstCells,loadCells,loadCellsFrom]
 ·cases p<;>simp [Builtin.append_,run_underlying A,sizeOf,typeInfo,m,Builtin.lenOf,Builtin.firstCells,G,storeCells,loadCells,loadCellsFrom]
theorem pC {P:Program} {w:World} {m:Array Oper} {rest:List Oper} {o:Oper} {a:Act} {Q:Exit->Act->World->Prop} (B:o.guard=none) (s x:Operand) (t:TypeId)
  (H:o.op=.call { callee:=.builtin .append,args:=#[s,x],argTypes:=#[t,t] })
  (base:Nat) (e:TypeId) (i:TypeInfo) (size:Nat) (J:P.underlying t=some (.slice e)) (G:P.info? e=some i)
  (v:Value) (n:Nat) (xs:List Value) (I:a.eval s=v) (A:w.ownsRow base e size v n xs) (p:Option Addr) (c:Nat) (L:a.eval x=.slice p 0 c)
  (h:wpList P m Q rest (a.put o.dst v) w):wpList P m Q (o::rest) a w:=by
 refine wpList_plain B fun R E=>?_
 have O:=mx (P:=P) (w:=w) base t o.type e i size J G v n xs A p c
 unfold Oper.wp
 simp [execOp,H,resolve,invoke,builtin,I,L,O,Result.andThen]
 exact E _ _ h
theorem jA {s:Nat} {t T:TypeId} {z:Value} {L:Nat} (Ek:0<s) (ht:Tryz.prog.underlying t=some (.slice T)) (hT:(Tryz.prog.info? T).map (fun ao=>(ao.zero,ao.size,ao.bytes))=some (some z,s,L)) (hz:z.cells.size=s) (av:L<=1000)
  {B:World} {ap:Array Oper} {rest:List Oper} {o:Oper} {a:Act} {Q:Exit->Act->World->Prop} (fe:o.guard=none) (os ox:Operand) (ho:o.op=.call { callee:=.builtin .append,args:=#[os,ox],argTypes:=#[t,t] })
  (base:Nat) (l E:List (List Value)) (I:Wid s E) (v:Value) (hs:a.eval os=v) (H:ag s T B base v l) (p:Option Addr) (m c:Nat) (hx:a.eval ox=.slice p m c) (U:E.length=m) (kw:GAt s B p E) (hn:l.length<=1000000) (aO:m<=1000000) (gu:base<=B.heap.size)
  (K:∀p' n' Y J,n'=l.length+m->ag s T J base (.slice p' n' Y) (l++E)->Below base B J->B.grownBy J v.ownBlock->wpList Tryz.prog ap Q rest (a.put o.dst (.slice p' n' Y)) J):
  wpList Tryz.prog ap Q (o::rest) a B:=by
 obtain⟨i0,hi,ax,ay,aJ⟩:=info_parts hT
 by_cases UU:m=0
 ·subst UU
  have:E = []:=fb U
  subst this
  obtain⟨p',c',rfl,-⟩:=H.is
  exact pC fe os ox t ho base T i0 s ht hi _ _ _ hs H.1 p c hx (K p' _ c' B rfl (by simpa using H) (Below.refl _ _) (ad _ _))
 have UU:0<m:=by omega
 have hb:(l.length+m)*L<=140737488355328:=by
  have:(l.length+m)*L<=(l.length+m)*1000:=mul_le_mul_left _ av
  omega
 obtain⟨au,aL,rfl,bN,hc⟩:=kw.resolve_left (fun h=>by rw [h] at U;simp at U;omega)
 refine wpList_append_lies (P:=Tryz.prog) _ fe os ox t ho base T i0 z s L ht hi ax ay aJ hz Ek _ l.length l.flatten hs H.1 ⟨au,aL,none⟩ m c E.flatten hx (by rw [jT I,U]) ?_ ?_ UU (by unfold maxLen;omega) hb gu B.heap.size rfl ?_
 ·intro G aq hj
  have ZC:=(Q4.1 hj).1
  rw [jT I] at ZC
  have A:G / s<E.length:=(div_lt_iff_lt_mul Ek).2 ZC
  have Z:=QS A
  have hr:G % s<(E[G / s]).length:=by rw [(I _ (getElem_mem A)).1];exact mod_lt _ Ek
  have O:=QS hr
  have R:=flat_get I _ _ Z _ _ O
  have h6:G / s*s+G % s=G:=by rw [Nat.mul_comm];exact div_add_mod G s
  rw [h6,hj] at R
  have R:=Option.some.inj R
  rw [Addr.add_lit,R,<-hc _ _ Z _ _ O,Nat.add_assoc,h6]
 ·intro aq hu
  obtain⟨ak,A,hu⟩:=mem_flatten.1 hu
  exact(I ak A).2 aq hu
 ·intro g' Y J Z O R _
  refine K _ _ Y J rfl ⟨by simpa [U] using Z,fun ak A=>?_⟩ (sY H.1 gu O) O
  rcases mem_append.1 A with A | A
  ·exact H.2 ak A
  ·exact I ak A
def one (zs:List Value):List (List Value):=zs.map ([·])
theorem dM (zs:List Value):(one zs).length=zs.length:=length_map _
theorem lI (zs:List Value):(one zs).flatten=zs:=by
 induction zs with
 | nil=>rfl
 | cons A B m=>simpa [one] using m
theorem jY (a b:List Value):one (a++b)=one a++one b:=map_append
theorem lS {zs:List Value} (h:∀u∈zs,u.oneCell'=true):Wid 1 (one zs):=fun E A=>by
 obtain⟨u,B,rfl⟩:=mem_map.1 A
 exact⟨rfl,fun G m=>by simp at m;subst m;exact h _ B⟩
theorem FP {w:World} {p:Option Addr} {zs:List Value} (h:VAt w p zs):GAt 1 w p (one zs):=by
 rcases h with rfl | ⟨B,L,rfl,G,E⟩
 ·exact .inl rfl
 ·refine .inr ⟨B,L,rfl,G,fun J O A I U m=>?_⟩
  unfold one at A
  rw [getElem?_map] at A
  obtain⟨R,H,rfl⟩:=Option.map_eq_some_iff.1 A
  match I,m with
  | 0,m=>simp at m;subst m;simpa using E J _ H
theorem xg {w:World} {p:Option Addr} {zs:List Value} (h:GAt 1 w p (one zs)):VAt w p zs:=by
 rcases h with h | ⟨A,I,rfl,G,B⟩
 ·refine .inl ?_
  unfold one at h;exact map_eq_nil_iff.1 h
 ·refine .inr ⟨A,I,rfl,G,fun H m E=>?_⟩
  have:=B H [m] (by unfold one;rw [getElem?_map,E];rfl) 0 m rfl
  simpa using this
def rz (t:fN):List Value:=[.int .i64 t.kind,aD t.lead,aD t.text,.int .i64 t.pos]
def ar (l:List Int):List Value:=l.map (Value.int .i64)
def ndV (K:Nat->Option Addr×Nat) (i:Nat) (x:Nd):List Value:=[.int .i64 x.kind,.int .i64 x.tok,.slice (K i).1 x.kids.length (K i).2]
def iZ (K:Nat->Option Addr×Nat) (N:List Nd):List (List Value):=N.mapIdx (ndV K)
def mu (T:List fN):List (List Value):=T.map rz
def Bv (w:World) (N:List Nd) (K:Nat->Option Addr×Nat):Prop:=∀(m:Nat) (A:Nd),N[m]? = some A->VAt w (K m).1 (ar A.kids)
def al (w:World) (p:Option Addr) (N:List Nd) (K:Nat->Option Addr×Nat):Prop:=GAt 3 w p (iZ K N)/\Bv w N K
def bl (w:World) (p:Option Addr) (T:List fN):Prop:=GAt 4 w p (mu T)
theorem al.kept {w A:World} {p:Option Addr} {N:List Nd} {K:Nat->Option Addr×Nat} (h:al w p N K) (m:w.grownBy A none):al A p N K:=⟨h.1.kept m,fun E G B=>(h.2 E G B).kept m⟩
theorem bl.kept {w m:World} {p:Option Addr} {T:List fN} (h:bl w p T) (A:w.grownBy m none):bl m p T:=GAt.kept h A
theorem bh (l:List Int):(ar l).length=l.length:=length_map _
theorem gX (l:List Int):∀u∈ar l,u.oneCell'=true:=fun u m=>by obtain⟨A,-,rfl⟩:=mem_map.1 m;rfl
theorem fs (a b:List Int):ar (a++b)=ar a++ar b:=map_append
theorem zN {l:List Int} {j:Nat} {x:Int} (h:l[j]? = some x):(ar l)[j]? = some (.int .i64 x):=by unfold ar;rw [getElem?_map,h];rfl
theorem bZ {w:World} {p:Option Addr} {N:List Nd} {K:Nat->Option Addr×Nat} (h:al w p N K) {n:Nat} {x:Nd} (H:N[n]? = some x):∃g m,p=some ⟨g,m,none⟩/\g<w.heap.size/\
  w.cell? ⟨g,m+n*3,none⟩=some (.int .i64 x.kind)/\w.cell? ⟨g,m+n*3+1,none⟩=some (.int .i64 x.tok)/\w.cell? ⟨g,m+n*3+2,none⟩=some (.slice (K n).1 x.kids.length (K n).2):=by
 have A:(iZ K N)[n]? = some (ndV K n x):=by unfold iZ;rw [getElem?_mapIdx,H];rfl
 obtain⟨g,m,rfl,G,B⟩:=h.1.resolve_left (fun E=>by rw [E] at A;simp at A)
 exact⟨g,m,rfl,G,B n _ A 0 _ rfl,B n _ A 1 _ rfl,B n _ A 2 _ rfl⟩
theorem vv {w:World} {p:Option Addr} {T:List fN} (h:bl w p T) {n:Nat} {t:fN} (H:T[n]? = some t):∃g m,p=some ⟨g,m,none⟩/\g<w.heap.size/\
  w.cell? ⟨g,m+n*4,none⟩=some (.int .i64 t.kind)/\w.cell? ⟨g,m+n*4+1,none⟩=some (aD t.lead)/\w.cell? ⟨g,m+n*4+2,none⟩=some (aD t.text)/\w.cell? ⟨g,m+n*4+3,none⟩=some (.int .i64 t.pos):=by
 have A:(mu T)[n]? = some (rz t):=by unfold mu;rw [getElem?_map,H];rfl
 obtain⟨g,m,rfl,G,B⟩:=Or.resolve_left h (fun E=>by rw [E] at A;simp at A)
 exact⟨g,m,rfl,G,B n _ A 0 _ rfl,B n _ A 1 _ rfl,B n _ A 2 _ rfl,B n _ A 3 _ rfl⟩
theorem bO {w:World} {p:Option Addr} {l:List Int} (h:VAt w p (ar l)) {j:Nat} {x:Int} (H:l[j]? = some x):∃g m,p=some ⟨g,m,none⟩/\g<w.heap.size/\w.cell? ⟨g,m+j,none⟩=some (.int .i64 x):=by
 have A:=zN H
 obtain⟨g,m,rfl,G,E⟩:=h.resolve_left (fun B=>by rw [B] at A;simp at A)
 exact⟨g,m,rfl,G,E j _ A⟩
theorem zm:(Tryz.prog.info? 3).map (fun m=>(m.zero,m.size,m.bytes))=some (some (.int .i64 0),1,8):=by kernel_rfl
open Go.RowKit Go.Shelf
attribute [local go_sem] Oper.semAt_some
structure KpS (n₀ : Nat) (S:Nat->Prop) (A B:World):Prop where
 size:A.heap.size<=B.heap.size
 block:∀k,k<n₀->¬S k->B.heap[k]? = A.heap[k]?
theorem KpS.refl (n₀ : Nat) (S:Nat->Prop) (A:World):KpS n₀ S A A:=⟨Nat.le_refl _,fun _ _ _=>rfl⟩
theorem KpS.trans {n₀ : Nat} {S:Nat->Prop} {A B C:World} (h:KpS n₀ S A B) (k:KpS n₀ S B C):KpS n₀ S A C:=⟨Nat.le_trans h.size k.size,fun G m E=>(k.block G m E).trans (h.block G m E)⟩
theorem KpS.cell {n₀ : Nat} {S:Nat->Prop} {A B:World} (h:KpS n₀ S A B) {a:Addr} (m:a.block<n₀) (E:¬S a.block):B.cell? a=A.cell? a:=World.cell?_of_block (h.block _ m E)
end Go.Proofs.YtpkipghjohomcaaGreatDoor
set_option maxHeartbeats 4000000
namespace Go.Proofs.YtpkipghjohomcaaGreatDoor
open Go.RowKit List Nat
def okB (n:Nat) (l:List Int):Bool:=l.all fun m=>decide (0<=m/\m<(n:Int))
theorem wD {n:Nat} {l:List Int} (h:∀k∈l,0<=k/\k<(n:Int)):okB n l=true:=by
 unfold okB;rw [all_eq_true];exact fun k m=>zd (h k m)
theorem n4 {n:Nat} {l:List Int} {j:Nat} {x:Int} (m:l[j]? = some x) (h:¬(0<=x/\x<(n:Int))):okB n l=false:=by
 unfold okB;rw [all_eq_false];exact⟨x,gn m,by simpa using h⟩
theorem tI (n:Nat) (l:List Int) (p:Option Addr) (c:Nat) (w:World) (hn:n<=1000000) (hl:l.length<=1000000) (h:VAt w p (ar l)):
  Calls Tryz.prog 83 #[.int .i64 (n:Int),.slice p l.length c] w (bp (.bool (okB n l)) w):=by
 obtain⟨m,J⟩:=zx l.length
 have Y:=zh J
 have HV:=zh h
 rw [J] at hl ⊢
 clear J h
 go_enter Tryz.func83,Tryz.ntmps83
 go_wp2_with fail
 go_loopw [9] (fun O wr=>∃B:Nat,B<=m/\O=.int .i64 B/\wr=w/\Hid (∀(E:Nat) (A:Int),E<B->l[E]? = some A->0<=A/\A<(n:Int))) (fun O _=>m - (intOf O).toNat)
 case atStart=>exact⟨0,zero_le _,rfl,rfl,zh (fun E A h=>by omega)⟩
 case round=>
  obtain⟨B,hk,rfl,rfl,U⟩:=hrel
  by_cases hlt:B<m
  ·have d1:=zE ((B:Int)<(m:Int))
   have ml:decide (B<m)=true:=zd hlt
   obtain⟨A,L⟩:∃A,l[B]? = some A:=⟨l[B]'(by rw [Y.out];exact hlt),QS _⟩
   obtain⟨ao,ap,rfl,bN,c0⟩:=bO HV L
   have H:=zh L
   clear L
   by_cases Z:A<0
   ·have d2:decide (A<0)=true:=zd Z
    go_wp2_with fail
    go_ret
    exact⟨by rw [n4 H.out (by omega)];rfl,ad _ _⟩
   ·have d2:decide (A<0)=false:=VW Z
    by_cases h1:(n:Int)<=A
    ·have d3:decide ((n:Int)<=A)=true:=zd h1
     go_wp2_with fail
     go_ret
     exact⟨by rw [n4 H.out (by omega)];rfl,ad _ _⟩
    ·have d3:decide ((n:Int)<=A)=false:=VW h1
     go_wp2_with fail
     go_roundw
     case rel=>exact⟨B+1,by omega,by go_num,by first | rfl | trivial,zh (fun E R I G=>by
      by_cases ak:E=B
      ·subst ak;rw [H.out] at G;cases G;omega
      ·exact U E R (by omega) G)⟩
     case measure=>(simp [intOf]<;>omega)
  ·obtain rfl:B=m:=by omega
   go_wp2_with fail
   go_ret
   exact⟨by rw [wD fun R G=>by
    obtain⟨E,I⟩:=getElem?_of_mem G
    have:=(Q4.1 I).1
    rw [Y.out] at this
    exact U E R this I];rfl,ad _ _⟩
open Go.RowKit Go.World
def pQ (w:World) (g M:Nat) (f:Nat->Value):Prop:=
 ∃m B,w.heap[g]? = some (.cells m B (0,0))/\m.size=M/\∀A,A<M->m[A]? = some (f A)
section
variable {w w':World} {g M:Nat} {f:Nat->Value}
theorem pQ.lt (h:pQ w g M f):g<w.heap.size:=by
 obtain⟨B,A,m,_⟩:=h
 exact(Array.getElem?_eq_some_iff.1 m).1
theorem pQ.cell (h:pQ w g M f) {j:Nat} (G:j<M):w.cell? ⟨g,j,none⟩=some (f j):=by
 obtain⟨A,m,E,_,B⟩:=h
 rw [hZ w g j A m (0,0) E];exact B j G
theorem pQ.free (h:pQ w g M f) (j:Nat):w.frozen? ⟨g,j,none⟩=false:=by
 obtain⟨B,A,m,_,E⟩:=h
 simp [World.frozen?,m]
theorem pQ.set (h:pQ w g M f) (f':Nat->Value) {j:Nat} (u:Value) (L:f' j=u) (I:∀i,i≠j->f' i=f i):pQ (w.setCell ⟨g,j,none⟩ u) g M f':=by
 obtain⟨G,E,J,B,H⟩:=h
 refine⟨G.setIfInBounds j u,E,?_,by simpa using B,fun i A=>?_⟩
 ·simp only [World.setCell,Array.getElem?_modify,J,if_true,Option.map_some];rfl
 ·rw [Array.getElem?_setIfInBounds]
  by_cases m:j=i
  ·subst m;simp [B,A,L]
  ·rw [if_neg m,H i A,I i (Ne.symm m)]
theorem pQ.kept {row:Option Nat} (h:pQ w g M f) (G:w.grownBy w' row) (B:some g≠row):pQ w' g M f:=by
 obtain⟨E,A,m,H⟩:=h
 exact⟨E,A,by rw [G.block g (Array.getElem?_eq_some_iff.1 m).1 B];exact m,H⟩
theorem pQ.congr {f':Nat->Value} (h:pQ w g M f) (e:∀j,j<M->f j=f' j):pQ w g M f':=by
 obtain⟨B,A,E,G,H⟩:=h
 exact⟨B,A,E,G,fun j m=>by rw [<-e j m];exact H j m⟩
end
theorem OJ (pt pn:Option Addr) (m ct M cn:Nat) (A:0<M) (B:M<=1000000) (w:World):
  Calls Tryz.prog 38 #[.agg #[.slice pt m ct,.slice pn M cn]] w (bp (.int .i64 ((M - 1:Nat):Int)) w):=by
 have E:IntKind.i64.wrap ((M:Int) - 1)=((M - 1:Nat):Int):=by rw [IntWalk.i64_in _ (by omega)];omega
 go_enter Tryz.func38,Tryz.ntmps38
 go_wp2_with fail
 go_ret
 exact⟨rfl,qn w _ none⟩
end Go.Proofs.YtpkipghjohomcaaGreatDoor
namespace Go.Proofs.YtpkipghjohomcaaGreatDoor
open Go.RowKit List Nat
theorem ag.keptF {S:Nat->Prop} {s:Nat} {T:TypeId} {w B:World} {base:Nat} {v:Value} {l:List (List Value)} (h:ag s T w base v l) (J:Fr2 S w B) (H:∀k,v.ownBlock=some k->¬S k):ag s T B base v l:=
 ⟨⟨h.1.1,h.1.2.imp id fun ⟨A,E,G,m,I,L,O⟩=>⟨A,E,G,m,I,J.keep L (H A (by rw [m];rfl)),O⟩⟩,h.2⟩
theorem ag.keptR {row:Option Nat} {s:Nat} {T:TypeId} {w m:World} {base:Nat} {v:Value} {l:List (List Value)} (h:ag s T w base v l) (E:w.grownBy m row) (B:∀k,v.ownBlock=some k->row≠some k):ag s T m base v l:=
 h.keptF (Fr2.of (S:=fun k=>row=some k) E (fun _ A=>A)) B
theorem ag.at {s:Nat} {T:TypeId} {w:World} {base:Nat} {v:Value} {l:List (List Value)} (h:ag s T w base v l):∀k,v.ownBlock=some k->base<=k/\k<w.heap.size:=h.1.lt
def Sep (a b:Value):Prop:=∀m,a.ownBlock=some m->b.ownBlock≠some m
theorem Sep.symm {a b:Value} (h:Sep a b):Sep b a:=fun B m A=>h B A m
section
variable {s:Nat} {t T:TypeId} {z:Value} {by':Nat}
theorem gm (U:0<s) (ht:Tryz.prog.underlying t=some (.slice T)) (hT:(Tryz.prog.info? T).map (fun G=>(G.zero,G.size,G.bytes))=some (some z,s,by')) (hz:z.cells.size=s) (ap:by'<=1000)
  {W:World} {R:Array Oper} {rest:List Oper} {o:Oper} {a:Act} {Q:Exit->Act->World->Prop} (Y:o.guard=none) (os I:Operand) (ho:o.op=.call { callee:=.builtin .append,args:=#[os,I],argTypes:=#[t,t] })
  (base:Nat) (l:List (List Value)) (y:List Value) (kw:y.length=s) (O:∀u∈y,u.oneCell'=true) (v:Value) (hs:a.eval os=v) (L:ag s T W base v l) (H:Nat) (J:Array Value) (ao:J=y.toArray) (ma:W.heap[H]? = some (.cells J T (0,0))) (hx:a.eval I=.slice (some ⟨H,0,none⟩) 1 1) (hn:l.length<=1000000) (Z:base<=W.heap.size) (E:Nat) (ak:W.heap.size=E)
  (K:∀g' B A,ag s T A base (.slice (some ⟨g',0,none⟩) (l.length+1) B) (l++[y])->W.grownBy A v.ownBlock->(v.ownBlock=some g'\/g'=E)->wpList Tryz.prog R Q rest (a.put o.dst (.slice (some ⟨g',0,none⟩) (l.length+1) B)) A):
  wpList Tryz.prog R Q (o::rest) a W:=by
 subst ao
 obtain⟨i0,hi,aq,au,av⟩:=info_parts hT
 have hb:(l.length+1)*by'<=140737488355328:=by
  have:(l.length+1)*by'<=(l.length+1)*1000:=mul_le_mul_left _ ap
  omega
 refine wpList_append_lies (P:=Tryz.prog) W Y os I t ho base T i0 z s by' ht hi aq au av hz U v l.length l.flatten hs L.1 ⟨H,0,none⟩ 1 1 y hx (by omega) ?_ O (by omega) (by unfold maxLen;omega) hb Z E ak ?_
 ·intro ay u hj
  rw [Addr.add_lit,hZ _ H _ _ _ (0,0) ma]
  rw [Nat.zero_add,Q7];exact hj
 ·intro g' B A h3 h4 h5 _
  refine K g' B A ⟨by simpa using h3,fun ax m=>?_⟩ h4 h5
  rcases mem_append.1 m with m | m
  ·exact L.2 ax m
  ·simp at m;subst m;exact⟨kw,O⟩
theorem eG (U:0<s) (ht:Tryz.prog.underlying t=some (.slice T)) (hT:(Tryz.prog.info? T).map (fun I=>(I.zero,I.size,I.bytes))=some (some z,s,by')) (hz:z.cells.size=s) (ap:by'<=1000)
  {W:World} {ax:Array Oper} {o:Oper} {a:Act} {K:Act->World->Prop} {Q:Exit->Act->World->Prop} {E:Prop} (Z:o.guard=none) (os J:Operand) (ho:o.op=.call { callee:=.builtin .append,args:=#[os,J],argTypes:=#[t,t] })
  (base:Nat) (l:List (List Value)) (y:List Value) (kw:y.length=s) (R:∀u∈y,u.oneCell'=true) (v:Value) (hs:a.eval os=v) (O:ag s T W base v l) (H:Nat) (L:Array Value) (ao:L=y.toArray) (ma:W.heap[H]? = some (.cells L T (0,0))) (hx:a.eval J=.slice (some ⟨H,0,none⟩) 1 1) (hn:l.length<=1000000) (gu:base<=W.heap.size) (G:Nat) (ak:W.heap.size=G)
  (Y:∀g' B A,ag s T A base (.slice (some ⟨g',0,none⟩) (l.length+1) B) (l++[y])->W.grownBy A v.ownBlock->(v.ownBlock=some g'\/g'=G)->K (a.put o.dst (.slice (some ⟨g',0,none⟩) (l.length+1) B)) A):
  if Region.wanted o (yielded ax a.tmps)=true then Oper.wp Tryz.prog o a W K Q else E:=by
 subst ao
 obtain⟨i0,hi,aq,au,av⟩:=info_parts hT
 have hb:(l.length+1)*by'<=140737488355328:=by
  have:(l.length+1)*by'<=(l.length+1)*1000:=mul_le_mul_left _ ap
  omega
 refine step_append_lies (P:=Tryz.prog) W Z os J t ho base T i0 z s by' ht hi aq au av hz U v l.length l.flatten hs O.1 ⟨H,0,none⟩ 1 1 y hx (by omega) ?_ R (by omega) (by unfold maxLen;omega) hb gu G ak ?_
 ·intro aJ u hj
  rw [Addr.add_lit,hZ _ H _ _ _ (0,0) ma]
  rw [Nat.zero_add,Q7];exact hj
 ·intro g' B A h3 h4 h5 _
  refine Y g' B A ⟨by simpa using h3,fun ay m=>?_⟩ h4 h5
  rcases mem_append.1 m with m | m
  ·exact O.2 ay m
  ·simp at m;subst m;exact⟨kw,R⟩
end
def iG (w:World) (base:Nat) (v:Value) (l:List Int):Prop:=ag 1 3 w base v (one (ar l))
theorem iG.parts {w:World} {base:Nat} {v:Value} {l:List Int} (h:iG w base v l):∃p c,v=.slice p l.length c/\VAt w p (ar l)/\l.length<=c/\c<=maxLen/\(l≠[]->∀a,p=some a->base<=a.block):=by
 obtain⟨p,c,m,E,A,G,H⟩:=ag.is h
 rw [dM,bh] at m A
 exact⟨p,c,m,xg E,A,G,fun I=>H (fun B=>I (by
  have:=congrArg List.length B
  rw [dM,bh] at this
  exact length_eq_zero_iff.1 this))⟩
theorem iG.pop {w:World} {base n c:Nat} {p:Option Addr} {l:List Int} {k:Int} (h:iG w base (.slice p n c) (l++[k])):n=l.length+1/\iG w base (.slice p l.length c) l/\(Value.slice p l.length c).ownBlock=(Value.slice p n c).ownBlock:=by
 obtain⟨p',J,E,-⟩:=h.parts
 injection E with O B R
 rw [Q2,length_singleton] at B
 subst B
 have m:=h.1
 rw [dM,lI,bh,fs] at m
 rcases m.2 with ⟨A,-⟩ | ⟨Y,L,U,A,-⟩
 ·cases A
 ·injection A with G Z H
  subst G;subst H
  have I:=ownsRow_pop (xs:=ar l) (last:=ar [k]) (by rw [bh,Nat.mul_one]) (by simpa using m)
  refine⟨rfl,⟨?_,lS (gX _)⟩,rfl⟩
  rw [dM,lI,bh]
  exact I
theorem iG.nil (w:World) (base:Nat):iG w base (.slice none 0 0) []:=ag.nil _ _ _ _
theorem iG.new (w:World) (base:Nat) (x:Int) (H:Nat) (m:w.heap.size=H) (A:base<=H):iG (w.alloc (.cells #[.int .i64 x] 3)) base (.slice (some ⟨H,0,none⟩) 1 1) [x]:=by
 subst m
 refine⟨?_,lS (gX _)⟩
 rw [dM,lI,bh]
 exact⟨by simp [ar],.inr ⟨_,1,_,rfl,A,YK w _,by simp,by unfold maxLen;omega,by simp,by simp [ar]⟩⟩
theorem iG.app {w:World} {base:Nat} {v:Value} {l:List Int} {x:Int} (h:ag 1 3 w base v (one (ar l)++[[.int .i64 x]])):iG w base v (l++[x]):=by
 unfold iG;rw [fs,jY];exact h
end Go.Proofs.YtpkipghjohomcaaGreatDoor
namespace Go.Proofs.YtpkipghjohomcaaGreatDoor
open Go.RowKit
theorem NS:(Tryz.prog.info? 3).map (fun m=>(m.zero,m.size,m.bytes))=some (some (.int .i64 0),1,8):=zm
end Go.Proofs.YtpkipghjohomcaaGreatDoor
namespace Go.Proofs.YtpkipghjohomcaaGreatDoor.Zd
open Go.RowKit Nat Go.World
def Bw:Nat:=18446744073709551616
theorem sS {k:IntKind} {a b:Int} (h:a=b):Value.int k a=Value.int k b:=by rw [h]
theorem uZ:0<Bw:=by unfold Bw;omega
def At (k:IntKind) (w:World) (p:Option Addr) (n:Nat) (f:Nat->Nat):Prop:=
 n=0\/∃g A,p=some ⟨g,A,none⟩/\g<w.heap.size/\∀m,m<n->w.cell? ⟨g,A+m,none⟩=some (.int k (f m))
theorem At.below {k:IntKind} {w w':World} {p:Option Addr} {n:Nat} {f:Nat->Nat} {B:Nat} (h:At k w p n f) (A:Below B w w') (G:∀a,p=some a->a.block<B):At k w' p n f:=by
 rcases h with h | ⟨g,m,rfl,I,H⟩
 ·exact .inl h
 ·exact .inr ⟨g,m,rfl,zn I A.size,fun E J=>(A.cell (p:=⟨g,m+E,none⟩) (show g<B from G ⟨g,m,none⟩ rfl)).trans (H E J)⟩
theorem At.pre {k:IntKind} {w:World} {p:Option Addr} {n m:Nat} {f:Nat->Nat} (h:At k w p n f) (I:m<=n):At k w p m f:=by
 rcases h with h | ⟨g,G,rfl,B,A⟩
 ·exact .inl (by omega)
 ·exact .inr ⟨g,G,rfl,B,fun E H=>A E (by omega)⟩
theorem At.grown {k:IntKind} {w w':World} {p:Option Addr} {n:Nat} {f:Nat->Nat} {row:Option Nat} (h:At k w p n f) (m:w.grownBy w' row) (B:∀a,p=some a->some a.block≠row):At k w' p n f:=by
 rcases h with h | ⟨g,A,rfl,G,E⟩
 ·exact .inl h
 ·exact .inr ⟨g,A,rfl,zn G m.size,fun I H=>m.cell (E I H) (show some g≠row from B ⟨g,A,none⟩ rfl)⟩
def Blk (k:IntKind) (w:World) (g M:Nat) (f:Nat->Nat):Prop:=
 ∃m B,w.heap[g]? = some (.cells m B (0,0))/\m.size=M/\∀A,A<M->m[A]? = some (.int k (f A))
section
variable {k:IntKind} {w w':World} {g M:Nat} {f:Nat->Nat}
theorem Blk.lt (h:Blk k w g M f):g<w.heap.size:=by
 obtain⟨B,A,m,_⟩:=h
 exact(Array.getElem?_eq_some_iff.1 m).1
theorem Blk.cell (h:Blk k w g M f) {j:Nat} (G:j<M):w.cell? ⟨g,j,none⟩=some (.int k (f j)):=by
 obtain⟨A,m,E,_,B⟩:=h
 rw [hZ w g j A m (0,0) E];exact B j G
theorem Blk.free (h:Blk k w g M f) (j:Nat):w.frozen? ⟨g,j,none⟩=false:=by
 obtain⟨B,A,m,_,E⟩:=h
 simp [World.frozen?,m]
theorem Blk.set (h:Blk k w g M f) {j:Nat} (x:Nat):Blk k (w.setCell ⟨g,j,none⟩ (.int k x)) g M (Mx.upd f j x):=by
 obtain⟨H,G,J,B,I⟩:=h
 refine⟨H.setIfInBounds j (.int k x),G,?_,by simpa using B,fun E A=>?_⟩
 ·simp only [World.setCell,Array.getElem?_modify,J,if_true,Option.map_some];rfl
 ·rw [Array.getElem?_setIfInBounds]
  by_cases m:j=E
  ·subst m;simp [Mx.upd,B,A]
  ·rw [if_neg m,I E A];simp [Mx.upd,Ne.symm m]
theorem Blk.kept {row:Option Nat} (h:Blk k w g M f) (G:w.grownBy w' row) (B:some g≠row):Blk k w' g M f:=by
 obtain⟨E,A,m,H⟩:=h
 exact⟨E,A,by rw [G.block g (Array.getElem?_eq_some_iff.1 m).1 B];exact m,H⟩
theorem Blk.drew (h:Blk k w g M f):Blk k w.drew g M f:=h
theorem Blk.at0 (h:Blk k w g M f):At k w (some ⟨g,0,none⟩) M f:=
 .inr ⟨g,0,rfl,h.lt,fun A m=>by rw [Nat.zero_add];exact h.cell m⟩
theorem Blk.at (h:Blk k w g M f) {m n:Nat} (E:m+n<=M):At k w (some ⟨g,m,none⟩) n (fun A=>f (m+A)):=
 .inr ⟨g,m,rfl,h.lt,fun A B=>h.cell (by omega)⟩
end
section
variable {w a b c:World} {row:Option Nat}
theorem ad (w:World) (row:Option Nat):w.grownBy w row:=⟨rfl,rfl,rfl,Nat.le_refl _,fun _ _ _=>rfl⟩
theorem aa (h:a.grownBy b row) (k:b.grownBy c row):a.grownBy c row:=
 ⟨k.os.trans h.os,k.tape.trans h.tape,k.output.trans h.output,Nat.le_trans h.size k.size,fun B m A=>(k.block B (zn m h.size) A).trans (h.block B m A)⟩
theorem aC (h:a.grownBy b row):a.grownBy b.drew row:=⟨h.os,h.tape,h.output,h.size,h.block⟩
theorem am (h:a.grownBy b row) (n:Nat):a.grownBy (b.drewN n) row:=⟨h.os,h.tape,h.output,h.size,h.block⟩
theorem af (h:a.grownBy b row) (o:Obj):a.grownBy (b.alloc o) row:=aa h (qn b o row)
theorem gbx {a b:World} {row:Option Nat} (h:a.grownBy b row:=by repeat (with_reducible first | exact ad _ _ | refine aC ?_ | refine af ?_ _)):a.grownBy b row:=h
theorem gby {a b:World} {row:Option Nat} (h:a.grownBy b row:=by repeat (with_reducible first | exact ad _ _ | refine aC ?_ | refine am ?_ _ | refine af ?_ _)):a.grownBy b row:=h
theorem pM {g j:Nat} (h:a.grownBy b (some g)) (u:Value):a.grownBy (b.setCell ⟨g,j,none⟩ u) (some g):=
 aa h ⟨rfl,rfl,rfl,by simp [World.setCell],fun B _ A=>Below.heap_setCell _ _ _ _ (by intro m;apply A;rw [m])⟩
theorem dF (h:a.grownBy b none):Below a.heap.size a b:=⟨h.os,h.tape,h.output,h.size,fun k m=>h.block k m (by simp)⟩
theorem H6 (m:a.grownBy b none):(∀k o,k<a.heap.size->b.cell? ⟨k,o,none⟩=a.cell? ⟨k,o,none⟩)/\(∀k o,k<a.heap.size->b.frozen? ⟨k,o,none⟩=a.frozen? ⟨k,o,none⟩):=
 ⟨fun k o h=>(dF m).cell (p:=⟨k,o,none⟩) h,fun k o h=>(dF m).frozen (p:=⟨k,o,none⟩) h⟩
theorem bj (h:Below a.heap.size a b):a.grownBy b row:=⟨h.os,h.tape,h.output,h.size,fun k m _=>h.block k m⟩
theorem FM {g:Nat} (h:Below a.heap.size a b) (B:a.heap.size<=g) (k:b.grownBy c (some g)):Below a.heap.size a c:=
 ⟨k.os.trans h.os,k.tape.trans h.tape,k.output.trans h.output,Nat.le_trans h.size k.size,fun A m=>(k.block A (zn m h.size) (by simp;omega)).trans (h.block A m)⟩
end
section
variable {P:Program} {f:FuncId} {args:Array Value} {w:World} {a n:Nat} {v:Value}
theorem q1 (c:∀W:World,Calls P f args W fun A w'=>A=.returned v/\W=w'):Calls P f args (w.drewN n) fun A G=>A=.returned v/\∃m,G=w.drewN m:=
 (c _).mono fun _ _ ⟨B,E⟩=>⟨B,n,E.symm⟩
theorem q2 (c:∀W:World,Calls P f args W fun A w'=>A=.returned v/\W=w'):Calls P f args (w.drewN (a+n)) fun A G=>A=.returned v/\∃m,G=w.drewN (a+m):=
 (c _).mono fun _ _ ⟨B,E⟩=>⟨B,n,E.symm⟩
theorem q3 (c:∀W:World,Calls P f args W fun A w'=>A=.returned v/\∃m,w'=W.drewN m):Calls P f args (w.drewN n) fun A G=>A=.returned v/\∃m,G=w.drewN m:=
 (c _).mono fun _ _ ⟨B,m,E⟩=>⟨B,n+m,by rw [E,drewN_drewN]⟩
theorem q4 (c:∀W:World,Calls P f args W fun A w'=>A=.returned v/\∃m,w'=W.drewN m):Calls P f args (w.drewN (a+n)) fun A G=>A=.returned v/\∃m,G=w.drewN (a+m):=
 (c _).mono fun _ _ ⟨B,m,E⟩=>⟨B,n+m,by rw [E,drewN_drewN,Nat.add_assoc]⟩
end
theorem Kq (x y c:Nat) (A:c<=1) (B:x<Bw) (E:y<Bw):∃s m:Nat,(∀w,(callFunc 140 #[.int .u64 x,.int .u64 y,.int .u64 c]).run Tryz.prog w=.ok (.value (.tuple #[.int .u64 s,.int .u64 m])) w)/\s<Bw/\m<=1/\s+m*Bw=x+y+c:=by
 unfold Bw at *
 refine⟨(x+y+c) % 18446744073709551616,(x+y+c) / 18446744073709551616,fun w=>?_,?_,?_,?_⟩
 ·rw [run_callFunc_extern Tryz.func140 (by kernel_rfl) (by kernel_rfl) (by kernel_rfl) (e:=add64Entry) (by kernel_rfl),run_add64 x y c (by omega) (by omega) (by omega) (by omega)]
  simp only [Result.andThen]
  congr 5<;>omega
 ·omega
 ·omega
 ·omega
theorem Ro (x y:Nat) (E:x<Bw) (G:y<Bw):∃m A:Nat,(∀w,Calls Tryz.prog 139 #[.int .u64 x,.int .u64 y] w fun B w'=>B=.returned (.tuple #[.int .u64 m,.int .u64 A])/\w=w')/\m<Bw/\A<Bw/\m*Bw+A=x*y:=by
 refine⟨x*y / 18446744073709551616,x*y % 18446744073709551616,fun w=>(Tryz.bits_Mul64 x y E G w).mono (by rintro B w' ⟨H,I⟩;exact⟨H,I.symm⟩),?_,?_,?_⟩
 ·have:x*y<18446744073709551616*18446744073709551616:=mul_lt_mul'' E G
  unfold Bw;omega
 ·unfold Bw;omega
 ·unfold Bw;omega
end Go.Proofs.YtpkipghjohomcaaGreatDoor.Zd
