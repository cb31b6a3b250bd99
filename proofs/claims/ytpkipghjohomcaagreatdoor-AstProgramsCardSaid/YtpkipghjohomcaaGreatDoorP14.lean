/- Lemmas. -/
import Derived.Test.YtpkipghjohomcaaGreatDoorP13
set_option linter.unusedVariables false
set_option linter.unusedSimpArgs false
set_option maxHeartbeats 16000000
set_option maxRecDepth 100000
namespace Go.Proofs.YtpkipghjohomcaaGreatDoor
open Go.RowKit List Go.World
def Bd:List Value:=bf.map (fun m=>Value.string ⟨m.toArray⟩)
theorem J7 {k:Nat} (h:k<14):Bd[k]? = some (.string ⟨(bf.getD k []).toArray⟩):=by
 have:∀k:Fin 14,bf[k.val]? = some (bf.getD k.val []):=by decide
 unfold Bd
 rw [getElem?_map,this ⟨k,h⟩];rfl
theorem II {s:List UInt8} {k:Nat} (G:k<14) (h:bf.getD k []=s) (O:∀j,j<k->bf.getD j []≠s):bf.idxOf s=k:=by
 have H:bf.length=14:=rfl
 have A:∀j (B:j<14),bf.getD j []=bf[j]'(by rw [H];exact B):=fun j B=>by
  rw [getD_eq_getElem?_getD,QS (by rw [H];exact B)];rfl
 have L:s∈bf:=by rw [<-h,A k G];exact getElem_mem _
 have I:=idxOf_lt_length_of_mem L
 have J:=getElem_idxOf (xs:=bf) (x:=s) I
 rcases Nat.lt_trichotomy (bf.idxOf s) k with m | m | m
 ·exact absurd (by rw [A _ (by omega)];exact J) (O _ m)
 ·exact m
 ·exfalso
  have E:=not_of_lt_findIdx (xs:=bf) (p:=(· == s)) m
  rw [<-A k G,h] at E
  simp at E
theorem N4 {s:List UInt8} (E:∀j,j<14->bf.getD j []≠s):kE s=0:=by
 have A:bf.length=14:=rfl
 unfold kE
 rw [if_neg]
 intro m
 have B:=getElem_idxOf (xs:=bf) (x:=s) (by rw [A];exact m)
 exact E _ m (by rw [getD_eq_getElem?_getD,QS (by rw [A];exact m)];exact B)
theorem aad (s:ByteArray) (w:World):Calls Tryz.prog 93 #[.string s] w (fun ap w'=>ap=.returned (.int .i64 (kE s.data.toList:Int))/\w.grownBy w' none):=by
 obtain⟨ak,L⟩:=zx (kE s.data.toList)
 rw [L]
 have HR:=zh L
 clear L
 go_enter Tryz.func93,Tryz.ntmps93
 go_wp2_with fail
 have H:=YK w (.cells Bd.toArray 177)
 have Y:=qn w (.cells Bd.toArray 177) none
 change (w.alloc (.cells #[.string ⟨#[43]⟩,.string ⟨#[45]⟩,.string ⟨#[42]⟩,.string ⟨#[47]⟩,.string ⟨#[37]⟩,.string ⟨#[61]⟩,.string ⟨#[60,62]⟩,.string ⟨#[60]⟩,.string ⟨#[60,61]⟩,.string ⟨#[62]⟩,.string ⟨#[62,61]⟩,.string ⟨#[38,38]⟩,.string ⟨#[124,124]⟩,.string ⟨#[61,62]⟩] 177)).heap[w.heap.size]? = _ at H
 change w.grownBy (w.alloc (.cells #[.string ⟨#[43]⟩,.string ⟨#[45]⟩,.string ⟨#[42]⟩,.string ⟨#[47]⟩,.string ⟨#[37]⟩,.string ⟨#[61]⟩,.string ⟨#[60,62]⟩,.string ⟨#[60]⟩,.string ⟨#[60,61]⟩,.string ⟨#[62]⟩,.string ⟨#[62,61]⟩,.string ⟨#[38,38]⟩,.string ⟨#[124,124]⟩,.string ⟨#[61,62]⟩] 177)) none at Y
 generalize (w.alloc (.cells #[.string ⟨#[43]⟩,.string ⟨#[45]⟩,.string ⟨#[42]⟩,.string ⟨#[47]⟩,.string ⟨#[37]⟩,.string ⟨#[61]⟩,.string ⟨#[60,62]⟩,.string ⟨#[60]⟩,.string ⟨#[60,61]⟩,.string ⟨#[62]⟩,.string ⟨#[62,61]⟩,.string ⟨#[38,38]⟩,.string ⟨#[124,124]⟩,.string ⟨#[61,62]⟩] 177))=WA at *
 obtain⟨J,hb⟩:=zx w.heap.size
 rw [hb] at H ⊢
 have Z:=zh H;have xC:=zh Y
 clear H Y hb
 go_loopw [4] (fun U wr=>∃m:Nat,m<=14/\U=.int .i64 m/\Hid (∀A,A<m->bf.getD A []≠s.data.toList)/\Hid (WA.grownBy wr none)) (fun U _=>14 - (intOf U).toNat)
 case atStart=>exact⟨0,by omega,rfl,zh (fun A hj=>by omega),zh (ad _ _)⟩
 case round=>
  obtain⟨m,hk,rfl,I,G⟩:=hrel
  by_cases hlt:m<14
  ·have d3:=zE ((m:Int)<14)
   have Yv:decide (m<14)=true:=zd hlt
   have Ep:J<wr.heap.size:=jJ (bx G Z)
   have ck:wr.cell? ⟨J,m,none⟩=some (.string ⟨(bf.getD m []).toArray⟩):=by
    rw [hZ wr J m _ _ (0,0) (bx G Z)]
    rw [Q7];exact J7 hlt
   obtain⟨B,R⟩:∃B:ByteArray,(⟨(bf.getD m []).toArray⟩:ByteArray)=B:=⟨_,rfl⟩
   have Hz:Hid (B.data.toList=bf.getD m []):=zh (by rw [<-R])
   rw [R] at ck
   clear R
   by_cases O:B=s
   ·have Gt:Hid (ak=7+m):=zh (by
     have h1:=II hlt (s:=s.data.toList) (by rw [<-Hz.out,O]) I
     rw [<-HR.out];unfold kE;rw [h1,if_pos hlt])
    have aq:IntKind.i64.wrap (7+(m:Int))=7+(m:Int):=IntWalk.i64_in _ (by omega)
    go_wp2_with fail
    go_ret
    exact⟨by rw [Gt.out];simp,aa xC G⟩
   ·have mz:Hid (∀A,A<m+1->bf.getD A []≠s.data.toList):=zh (fun A hj=>by
     rcases Nat.lt_succ_iff_lt_or_eq.1 hj with h | h
     ·exact I A h
     ·subst h
      intro E
      rw [<-Hz.out] at E
      exact O (by cases B;cases s;simp only [Array.toList_inj] at E;rw [E]))
    have bc:(B.toList == s.toList)=false:=xz.2 (fun E=>by
     rw [toList_data,toList_data] at E
     exact O (by cases B;cases s;simp only [Array.toList_inj] at E;rw [E]))
    go_wp2_with fail
    go_roundw
    case rel=>exact⟨m+1,by omega,by go_num,mz,G⟩
    case measure=>(simp [intOf]<;>omega)
  ·obtain rfl:m=14:=by omega
   have ao:Hid (ak=0):=zh (by rw [<-HR.out];exact N4 I)
   go_wp2_with fail
   go_ret
   exact⟨by rw [ao.out];rfl,aa xC G⟩
def CN:fN:=⟨0,[],[],0⟩
def rD (T:List fN) (x:Nd):fN:=if x.kind=19 then T[x.tok.toNat]?.getD CN else CN
def AV (t:fN) (w:World) (e:Ending) (m:World):Prop:=e=.returned (.agg #[.int .i64 t.kind,aD t.lead,aD t.text,.int .i64 t.pos])/\w.grownBy m none
theorem Hx (T:List fN) (N:List Nd) (K:Nat->Option Addr×Nat) (pt pn:Option Addr) (ct cn n:Nat) (x:Nd) (w:World) (ht:bl w pt T) (hw:al w pn N K) (Y:N[n]? = some x) (J:x.kind=19->0<=x.tok/\x.tok<(T.length:Int)) (R:T.length<=1000000/\N.length<=1000000):
  Calls Tryz.prog 25 #[.agg #[.slice pt T.length ct,.slice pn N.length cn],.int .i64 (n:Int)] w (AV (rD T x) w):=by
 obtain⟨ao,ap,rfl,bN,c0,c1,c2⟩:=bZ hw Y
 have U:n<N.length:=(Q4.1 Y).1
 obtain⟨xk,O⟩:=zx x.kind
 obtain⟨xt,xB⟩:=zx x.tok
 obtain⟨kl,dU⟩:=zx x.kids.length
 rw [O] at c0 J
 rw [xB] at c1 J
 rw [dU] at c2
 generalize K n=kk at *
 obtain⟨kq,kc⟩:=kk
 simp only at c2
 by_cases I:xk=19
 ·obtain⟨h1,h2⟩:=J I
  obtain⟨H,rfl⟩:∃H:Nat,xt=(H:Int):=⟨xt.toNat,by omega⟩
  obtain⟨Z,ak⟩:∃Z,T[H]? = some Z:=⟨T[H]'(by omega),QS _⟩
  obtain⟨g2,o2,rfl,aq,t0,t1,t2,t3⟩:=vv ht ak
  have L:Hid (rD T x=Z):=zh (by unfold rD;rw [if_pos (O.trans I),xB,Int.toNat_natCast,ak];rfl)
  rw [L.out]
  obtain⟨A,B⟩:=zx N.length
  obtain⟨m,E⟩:=zx T.length
  rw [B] at U ⊢
  rw [E] at h2 ⊢
  have xS:m<=1000000/\A<=1000000:=by rw [<-E,<-B];exact R
  obtain⟨tk,hd,tx,tp⟩:=Z
  unfold AV
  simp only at t0 t1 t2 t3 ⊢
  unfold aD at *
  generalize (⟨hd.toArray⟩:ByteArray)=y1 at *
  generalize (⟨tx.toArray⟩:ByteArray)=y2 at *
  have d1:decide (n<A)=true:=zd U
  have ml:=zE ((n:Int)<(A:Int))
  have d2:=zE (H<m)
  have av:=zE ((H:Int)<(m:Int))
  subst I
  clear Y J B E R ak L ht hw O xB dU
  go_enter Tryz.func25,Tryz.ntmps25
  go_wp2_with fail
  have kt:=qn w (.cells #[.slice (some ⟨g2,o2,none⟩) m ct,.slice (some ⟨ao,ap,none⟩) A cn] 46) none
  have G:=aa kt (qn (w.alloc (.cells #[.slice (some ⟨g2,o2,none⟩) m ct,.slice (some ⟨ao,ap,none⟩) A cn] 46)) (.cells #[.int .i64 0,.string ⟨#[]⟩,.string ⟨#[]⟩,.int .i64 0] 88) none)
  have c0:=G.cell c0 (by simp)
  have c1:=G.cell c1 (by simp)
  have t0:=G.cell t0 (by simp)
  have t1:=G.cell t1 (by simp)
  have t2:=G.cell t2 (by simp)
  have t3:=G.cell t3 (by simp)
  clear kt G
  go_region
  all_goals
   go_wp2_with fail
   try simp only [Exit.inBlock,Exit.then]
   refine bodyPost_ret (by simp [results,Tryz.results25,go_sem];try rfl) rfl ?_
   exact⟨rfl,by repeat (with_reducible first | exact ad _ _ | refine aC ?_ | refine af ?_ _)⟩
 ·have d0:(xk == 19)=false:=xz.2 I
  have au:(xk != 19)=true:=by rw [bne,d0];rfl
  have L:Hid (rD T x=CN):=zh (by unfold rD;rw [if_neg (by rw [O];exact I)])
  rw [L.out]
  obtain⟨A,B⟩:=zx N.length
  obtain⟨m,E⟩:=zx T.length
  rw [B] at U ⊢
  rw [E]
  have xS:m<=1000000/\A<=1000000:=by rw [<-E,<-B];exact R
  have d1:decide (n<A)=true:=zd U
  have ml:=zE ((n:Int)<(A:Int))
  unfold AV CN aD
  clear Y J B E R L ht hw O xB dU
  go_enter Tryz.func25,Tryz.ntmps25
  go_wp2_with fail
  try simp only [Exit.inBlock,Exit.then]
  refine bodyPost_ret (by simp [results,Tryz.results25,go_sem];try rfl) rfl ?_
  exact⟨rfl,af (af (ad _ _) _) _⟩
set_option maxHeartbeats 2000000
open Go.RowKit List
def agw (w:World) (p:Option Addr) (zs:List Int):Prop:=
 zs = []\/∃m B,p=some ⟨m,B,none⟩/\m<w.heap.size/\∀A,A<zs.length->w.cell? ⟨m,B+A,none⟩=some (.int .i64 (zs.getD A 0))
theorem Dc {w:World} {p:Option Addr} {zs:List Int} (h:VAt w p (ar zs)):agw w p zs:=by
 rcases h with h | ⟨A,H,rfl,E,B⟩
 ·left;unfold ar at h;simpa using h
 ·right
  refine⟨A,H,rfl,E,fun G m=>B G _ ?_⟩
  rw [zN (QS m)]
  simp [List.getD,m]
theorem vg {l:List Int} {k:Nat} (h:k<l.length):l.take (k+1)=l.take k++[l.getD k 0]/\l.getD k 0∈l:=by
 rw [take_add_one]
 simp [List.getD,h]
def vo (b:Bool) (w:World) (e:Ending) (m:World):Prop:=e=.returned (.bool b)/\w.grownBy m none
theorem G8 (p1 p2:Option Addr) (c1 c2:Nat) (m l2:List Int) (w:World) (hl:m.length<=1000000) (U:VAt w p1 (ar m)) (Y:VAt w p2 (ar l2)):Calls Tryz.prog 12 #[.slice p1 m.length c1,.slice p2 l2.length c2] w (vo (decide (m=l2)) w):=by
 by_cases R:m.length=l2.length
 ·obtain⟨G,I⟩:=zx m.length
  have Z:l2.length=G:=by omega
  have L:=zh I;have J:=zh Z;have Wz:=zh (Dc U);have Ly:=zh (Dc Y)
  rw [I] at hl
  rw [I,Z]
  clear I Z U Y R
  go_enter Tryz.func12,Tryz.ntmps12
  go_wp2_with fail
  go_loopw [5] (fun ak wr=>∃k:Nat,k<=G/\ak=.int .i64 k/\Hid (m.take k=l2.take k)/\Hid (w.grownBy wr none)) (fun ak _=>G - (intOf ak).toNat)
  case atStart=>exact⟨0,by omega,rfl,zh (by simp),ad _ _⟩
  case round=>
   obtain⟨k,hk,rfl,O,B⟩:=hrel
   by_cases hlt:k<G
   ·have ap:m≠[]:=fun A=>by have:=L.out;rw [A] at this;simp at this;omega
    have ao:l2≠[]:=fun A=>by have:=J.out;rw [A] at this;simp at this;omega
    obtain⟨g1,o1,rfl,cJ,uG⟩:=Wz.resolve_left ap
    obtain⟨g2,o2,rfl,bL,tA⟩:=Ly.resolve_left ao
    have aq:=B.cell (uG k (by have:=L.out;omega)) (by simp)
    have au:=B.cell (tA k (by have:=J.out;omega)) (by simp)
    have lN:=zh (vg (l:=m) (k:=k) (by have:=L.out;omega))
    have mK:=zh (vg (l:=l2) (k:=k) (by have:=J.out;omega))
    clear uG tA ap ao
    generalize m.getD k 0=y1 at *
    generalize l2.getD k 0=y2 at *
    by_cases H:y1=y2
    ·subst H
     go_wp2_with fail
     go_region
     all_goals
      go_wp2_with fail
      go_roundw
      case rel=>exact⟨k+1,by omega,by go_num,zh (by rw [lN.1,mK.1,O.out]),aC B⟩
      case measure=>simp [intOf];omega
    ·have d1:(y1 != y2)=true:=bne_iff_ne.2 H
     have E:Hid (decide (m=l2)=false):=zh (VW fun A=>H (by
      have e1:=lN.1
      have e2:=mK.1
      rw [<-A,e1] at e2
      have e3:=append_inj e2 (by rw [O.out])
      simpa using e3.2))
     clear H
     go_wp2_with fail
     go_region
     all_goals
      go_wp2_with fail
      go_ret
      exact⟨by rw [E.out];rfl,aC B⟩
   ·obtain rfl:k=G:=by omega
    have E:Hid (decide (m=l2)=true):=zh (zd (by have:=O.out;rwa [V7 (by have:=L.out;omega),V7 (by have:=J.out;omega)] at this))
    go_wp2_with fail
    go_ret
    exact⟨by rw [E.out];rfl,B⟩
 ·have d1:((m.length:Int) != (l2.length:Int))=true:=bne_iff_ne.2 (by omega)
  have E:Hid (decide (m=l2)=false):=zh (VW fun A=>R (by rw [A]))
  clear R U Y hl
  generalize m.length=n1 at *
  generalize l2.length=n2 at *
  go_enter Tryz.func12,Tryz.ntmps12
  go_wp2_with fail
  go_ret
  exact⟨by rw [E.out];rfl,ad _ _⟩
set_option maxHeartbeats 8000000
open Go.RowKit List Nat Go.World
theorem jR (T:List fN):(mu T).length=T.length:=length_map _
theorem mP (K:Nat->Option Addr×Nat) (N:List Nd):(iZ K N).length=N.length:=length_mapIdx
theorem IL {T:List fN} {k:Nat} {t:fN} (h:T[k]? = some t):(mu T).take (k+1)=(mu T).take k++[rz t]:=by
 rw [take_add_one];unfold mu;rw [getElem?_map,h];rfl
theorem MZ {K:Nat->Option Addr×Nat} {N:List Nd} {k:Nat} {x:Nd} (h:N[k]? = some x):(iZ K N).take (k+1)=(iZ K N).take k++[ndV K k x]:=by
 rw [take_add_one];unfold iZ;rw [getElem?_mapIdx,h];rfl
theorem QG:(Tryz.prog.info? 88).map (fun m=>(m.zero,m.size,m.bytes))=some (some (.agg #[.int .i64 0,.string ⟨#[]⟩,.string ⟨#[]⟩,.int .i64 0]),4,48):=by kernel_rfl
theorem Nh:(Tryz.prog.info? 86).map (fun m=>(m.zero,m.size,m.bytes))=some (some (.agg #[.int .i64 0,.int .i64 0,.slice none 0 0]),3,40):=by kernel_rfl
def wA (T:List fN) (N:List Nd) (K:Nat->Option Addr×Nat) (w:World) (e:Ending) (m:World):Prop:=
 w.grownBy m none/\∃A E B G,e=.returned (.agg #[.slice A T.length E,.slice B N.length G])/\bl m A T/\al m B N K
theorem SA (T:List fN) (N:List Nd) (K:Nat->Option Addr×Nat) (pt pn:Option Addr) (ct cn:Nat) (w:World) (a9:T.length<=40000) (a8:N.length<=150000) (ht:bl w pt T) (hw:al w pn N K):
  Calls Tryz.prog 8 #[.agg #[.slice pt T.length ct,.slice pn N.length cn]] w (wA T N K w):=by
 have HT:=zh ht;have HW:=zh hw
 have HP:Hid (∀J w',(w.grownBy w' none/\∃p c p' c',J=.returned (.agg #[.slice p T.length c,.slice p' N.length c'])/\bl w' p T/\al w' p' N K)->wA T N K w J w'):=zh (fun _ _ h=>h)
 obtain⟨m,hm⟩:=zx T.length
 obtain⟨R,hM⟩:=zx N.length
 rw [hm,hM] at HP
 rw [hm] at a9 ⊢
 rw [hM] at a8 ⊢
 have HM:=zh hM;have nQ:=zh hm
 clear ht hw hm hM
 go_enter Tryz.func8,Tryz.ntmps8
 go_wp2_with fail
 have hA:=YK w (.cells #[.slice pt m ct,.slice pn R cn] 26)
 have kt:=qn w (.cells #[.slice pt m ct,.slice pn R cn] 26) none
 have rW:(w.alloc (.cells #[.slice pt m ct,.slice pn R cn] 26)).heap.size=w.heap.size+1:=by simp
 generalize (w.alloc (.cells #[.slice pt m ct,.slice pn R cn] 26))=W1 at *
 have hB:=YK W1 (.cells #[.slice none 0 0,.slice none 0 0] 46)
 have mD:=qn W1 (.cells #[.slice none 0 0,.slice none 0 0] 46) none
 have PP:(W1.alloc (.cells #[.slice none 0 0,.slice none 0 0] 46)).heap.size=w.heap.size+1+1:=by rw [<-rW];simp
 rw [rW] at hB
 generalize (W1.alloc (.cells #[.slice none 0 0,.slice none 0 0] 46))=W2 at *
 have hC:=YK W2 (.cells #[.slice none 0 0,.slice none 0 0] 46)
 have jo:=qn W2 (.cells #[.slice none 0 0,.slice none 0 0] 46) none
 have ax:(W2.alloc (.cells #[.slice none 0 0,.slice none 0 0] 46)).heap.size=w.heap.size+3:=by rw [show w.heap.size+3=W2.heap.size+1 by omega];simp
 rw [PP] at hC
 generalize (W2.alloc (.cells #[.slice none 0 0,.slice none 0 0] 46))=W at *
 have HA:=zh (bx jo (bx mD hA))
 have HB:=zh (bx jo hB)
 have HC:=zh hC
 have kD:=zh (aa kt (aa mD jo))
 obtain⟨ap,hb⟩:=zx w.heap.size
 have ik:=zh hb
 rw [hb] at HA HB HC ax ⊢
 have Zc:=zh ax
 clear hA hB hC kt mD jo rW PP hb ax
 obtain⟨U,eg⟩:=zx (ap+1)
 rw [eg] at HB HC ⊢
 obtain⟨B,cB⟩:=zx (U+1)
 rw [cB] at HC ⊢
 have bq:ap<U:=by omega
 have Su:U<B:=by omega
 have a6:B<ap+3:=by omega
 clear eg cB
 go_loopw [11] (fun v wr=>∃A:Nat,A<=m/\v=.int .i64 A/\(∃ao,Hid (wr.heap[B]? = some (.cells #[ao,.slice none 0 0] 46 (0,0)))/\Hid (ag 4 88 wr (ap+3) ao ((mu T).take A)))/\Hid (Fr2 (fun A=>A=B) W wr)) (fun v _=>m - (intOf v).toNat)
 case atStart=>exact⟨0,zero_le _,rfl,⟨_,HC,zh (ag.nil _ _ _ _)⟩,zh (Fr2.refl _ _)⟩
 case round=>
  clear HC
  obtain⟨A,hk,rfl,⟨ao,G,H⟩,Y⟩:=hrel
  have bm:=zh (Fr2.after kD Y (fun A J=>by rw [ik.out,J];omega))
  by_cases hlt:A<m
  ·have d3:=zE ((A:Int)<(m:Int))
   have Yv:decide (A<m)=true:=zd hlt
   obtain⟨t,L⟩:∃t,T[A]? = some t:=⟨T[A]'(by rw [nQ.out];exact hlt),QS _⟩
   obtain⟨g,bd,rfl,bN,c0,Z,c2,c3⟩:=vv HT L
   have c0:=bm.cell c0 (by simp)
   have Z:=bm.cell Z (by simp)
   have c2:=bm.cell c2 (by simp)
   have c3:=bm.cell c3 (by simp)
   have cu:=zh (IL L)
   obtain⟨y1,aq⟩:=zx (aD t.lead)
   obtain⟨y2,au⟩:=zx (aD t.text)
   have GA:Hid (rz t = [.int .i64 t.kind,y1,y2,.int .i64 t.pos]):=zh (by unfold rz;rw [aq,au])
   unfold aD at aq au
   have aO:∀u∈rz t,u.oneCell'=true:=fun u hu=>by unfold rz aD at hu;simp at hu;rcases hu with rfl | rfl | rfl | rfl<;>rfl
   have av:=zh aO
   have KQ:((mu T).take A).length<=1000000:=by rw [length_take,jR,nQ.out];omega
   have ur:=zh KQ
   unfold aD at Z c2
   obtain⟨z1,XO⟩:∃ay:ByteArray,(⟨t.lead.toArray⟩:ByteArray)=ay:=⟨_,rfl⟩
   obtain⟨z2,EQ⟩:∃ay:ByteArray,(⟨t.text.toArray⟩:ByteArray)=ay:=⟨_,rfl⟩
   rw [XO] at Z aq
   rw [EQ] at c2 au
   subst aq;subst au
   generalize t.kind=tk at *
   generalize t.pos=tp at *
   obtain⟨a0,a1,a2⟩:=ac G
   have a7:B<wr.heap.size:=jJ G
   have a5:g<wr.heap.size:=zn bN bm.size
   have hX:=YK wr (.cells #[.int .i64 tk,.string z1,.string z2,.int .i64 tp] 91)
   have oT:=qn wr (.cells #[.int .i64 tk,.string z1,.string z2,.int .i64 tp] 91) none
   have jN:=zh (bx oT G)
   have oY:=zh (H.kept oT)
   have lr:=zh (Y.trans (Fr2.none oT))
   have HX:=zh hX
   clear hX KQ aO L XO EQ Y H G
   have jw:Hid (((mu T).take A).length=A):=zh (by rw [length_take,jR,nQ.out];omega)
   generalize (mu T).take A=LK at oY cu ur jw
   go_wp2_with (at_builtin;go_loud (refine tC (s:=4) (t:=43) (T:=88) (by decide) Tryz.underlying43 QG rfl (by omega) rfl _ _ rfl (ap+3) LK (rz t) (by rw [GA.out];rfl) av ao rfl oY (wr.heap.size+1) (by simp) rfl ur (by rw [<-Zc.out];exact lr.size) _ (by rw [GA.out]) ?_))
   intro g9 ak w9 fM uJ
   rw [<-cu.out] at fM
   have ji:=zh fM
   have fW:=zh (show w9.heap[B]? = _ from(uJ.block (B) (by omega)).trans jN)
   obtain⟨q0,q1,q2⟩:=ac fW
   have P1:=zh (lr.low (by rw [Zc.out];exact uJ))
   clear fM uJ HX jN oY lr a0 a1 a2 c0 Z c2 c3
   rw [jw.out] at ji ⊢
   have fq:=zh (show((w9.setCell ⟨B,0,none⟩ (.slice (some ⟨g9,0,none⟩) (A+1) ak)).heap[B]? = some (.cells #[.slice (some ⟨g9,0,none⟩) (A+1) ak,.slice none 0 0] 46 (0,0))) from ab fW)
   have gB:=zh (P1.setCell (g:=B) (j:=0) rfl (.slice (some ⟨g9,0,none⟩) (A+1) ak))
   have iQ:=zh (ji.keptS (Fr2.setCell (S:=fun A=>A=B) (Fr2.refl _ _) (g:=B) (j:=0) rfl (.slice (some ⟨g9,0,none⟩) (A+1) ak)) (fun g hg=>by omega))
   clear ji P1 fW
   go_wp2_with fail
   go_roundw
   case rel=>exact⟨A+1,by omega,by go_num,⟨_,fq,iQ⟩,gB⟩
   case measure=>(simp [intOf]<;>omega)
  ·obtain rfl:A=m:=by omega
   have aJ:=zh (Y.keep HA (by omega))
   obtain⟨a0,a1,a2⟩:=ac aJ
   rw [V7 (by rw [jR,nQ.out];exact Nat.le_refl _)] at H
   obtain⟨O,cT,eT,a3,-⟩:=H.is
   rw [jR,nQ.out] at eT
   have rN:=zh (show bl wr O T from a3)
   have lj:=zh Y.size
   rw [Zc.out] at lj
   subst eT
   have dP:=zh (fun h I (ha:O=some I)=>by
    have:=H.lt rfl (p:=O) (n:=A) (c:=cT) h
    obtain⟨a',h1,h2,h3⟩:=this
    rw [ha] at h1
    have h4:I=a':=Option.some.inj h1
    exact(h4▸⟨h2,h3⟩:ap+3<=I.block/\I.block<wr.heap.size))
   clear a3
   have IP:=G
   obtain⟨W3,xj⟩:=zx wr
   rw [xj] at bm a0 a1 a2 lj rN IP aJ dP Y ⊢
   clear G H xj
   go_wp2_with fail
   go_loopw [25] (fun v wr=>∃j:Nat,j<=R/\v=.int .i64 j/\(∃ao,Hid (wr.heap[B]? = some (.cells #[.slice O A cT,ao] 46 (0,0)))/\Hid (ag 3 86 wr W3.heap.size ao ((iZ K N).take j)))/\Hid (Fr2 (fun A=>A=B) W3 wr)) (fun v _=>R - (intOf v).toNat)
   case atStart=>exact⟨0,zero_le _,rfl,⟨_,IP,zh (ag.nil _ _ _ _)⟩,zh (Fr2.refl _ _)⟩
   case round=>
    clear IP
    obtain⟨j,hj,rfl,⟨ao,G,H⟩,oM⟩:=hrel
    have mq:=zh (Fr2.after kD (Y.trans oM) (fun A J=>by rw [ik.out,J];omega))
    by_cases hlt:j<R
    ·have d3:=zE ((j:Int)<(R:Int))
     have Yv:decide (j<R)=true:=zd hlt
     obtain⟨E,L⟩:∃E,N[j]? = some E:=⟨N[j]'(by rw [HM.out];exact hlt),QS _⟩
     obtain⟨g,bd,rfl,bN,c0,Z,c2⟩:=bZ HW L
     have c0:=mq.cell c0 (by simp)
     have Z:=mq.cell Z (by simp)
     have c2:=mq.cell c2 (by simp)
     have cu:=zh (MZ (K:=K) L)
     obtain⟨bi,hy⟩:=zx (Value.slice (K j).1 E.kids.length (K j).2)
     have GA:Hid (ndV K j E = [.int .i64 E.kind,.int .i64 E.tok,bi]):=zh (by unfold ndV;rw [hy])
     have av:Hid (∀u∈ndV K j E,u.oneCell'=true):=zh (fun u hu=>by unfold ndV at hu;simp at hu;rcases hu with rfl | rfl | rfl<;>rfl)
     have ur:Hid (((iZ K N).take j).length<=1000000):=zh (by rw [length_take,mP,HM.out];omega)
     generalize E.kind=xk at *
     generalize E.tok=xt at *
     generalize E.kids.length=kl at *
     generalize (K j).1=kq at *
     generalize (K j).2=kc at *
     obtain⟨a0,a1,a2⟩:=ac G
     have a7:B<wr.heap.size:=jJ G
     have a5:g<wr.heap.size:=zn bN mq.size
     have oT:=qn wr (.cells #[.int .i64 xk,.int .i64 xt,.slice kq kl kc] 92) none
     have jN:=zh (bx oT G)
     have oY:=zh (H.kept oT)
     have lr:=zh (oM.trans (Fr2.none oT))
     have nE:=zh lr.size
     have jw:Hid (((iZ K N).take j).length=j):=zh (by rw [length_take,mP,HM.out];omega)
     generalize (iZ K N).take j=LK at oY cu ur jw H
     subst hy
     clear L oM H G oT
     go_wp2_with (at_builtin;go_loud (refine tC (s:=3) (t:=44) (T:=86) (by decide) Tryz.underlying44 Nh rfl (by omega) rfl _ _ rfl W3.heap.size LK (ndV K j E) (by rw [GA.out];rfl) av ao rfl oY (wr.heap.size+1) (by simp) rfl ur nE _ (by rw [GA.out]) ?_))
     intro g9 ak w9 fM uJ
     rw [<-cu.out] at fM
     have ji:=zh fM
     have fa:B<W3.heap.size:=zn a6 lj
     have fW:=zh (show w9.heap[B]? = _ from(uJ.block B fa).trans jN)
     obtain⟨q0,q1,q2⟩:=ac fW
     have P1:=zh (lr.low uJ)
     clear fM uJ jN oY lr a0 a1 a2 c0 Z c2
     rw [jw.out] at ji ⊢
     have fq:=zh (show((w9.setCell ⟨B,1,none⟩ (.slice (some ⟨g9,0,none⟩) (j+1) ak)).heap[B]? = some (.cells #[.slice O A cT,.slice (some ⟨g9,0,none⟩) (j+1) ak] 46 (0,0))) from ab fW)
     have gB:=zh (P1.setCell (g:=B) (j:=1) rfl (.slice (some ⟨g9,0,none⟩) (j+1) ak))
     have iQ:=zh (ji.keptS (Fr2.setCell (S:=fun A=>A=B) (Fr2.refl _ _) (g:=B) (j:=1) rfl (.slice (some ⟨g9,0,none⟩) (j+1) ak)) (fun g hg=>by omega))
     clear ji P1 fW
     go_wp2_with fail
     go_roundw
     case rel=>exact⟨j+1,by omega,by go_num,⟨_,fq,iQ⟩,gB⟩
     case measure=>(simp [intOf]<;>omega)
    ·obtain rfl:j=R:=by omega
     rw [V7 (by rw [mP,HM.out];exact Nat.le_refl _)] at H
     obtain⟨pN,cN,eN,aX,-⟩:=H.is
     rw [mP,HM.out] at eN
     subst eN
     have xF:=zh aX
     obtain⟨a0,a1,a2⟩:=ac G
     obtain⟨r0,r1,r2⟩:=ac (oM.keep (Y.keep HB (by omega)) (by omega))
     have a4:=zh (GAt.keptS rN oM (fun h I ha J=>by
      have h1:=dP (by cases A with | zero=>exact absurd (length_eq_zero_iff.1 (by rw [jR,nQ.out])) h | succ n=>omega) I ha
      omega))
     have bn:Hid (Bv wr N K):=zh (fun i E L=>(HW.2 i E L).kept mq)
     have qP:=zh (fun h I (ha:pN=some I)=>by
      have:=H.lt rfl (p:=pN) (n:=j) (c:=cN) h
      obtain⟨a',h1,h2,h3⟩:=this
      rw [ha] at h1
      have h4:I=a':=Option.some.inj h1
      exact(h4▸h2:W3.heap.size<=I.block))
     have Sv:U<wr.heap.size:=Nat.lt_trans Su (jJ G)
     have bc:=ab (i:=1) (u:=.slice pN j cN) (ab (i:=0) (u:=.slice O A cT) (oM.keep (Y.keep HB (by omega)) (by omega)))
     have KH:=zh ((Fr2.setCell (S:=fun A=>A=U) (Fr2.refl _ wr) (g:=U) (j:=0) rfl (.slice O A cT)).setCell (g:=U) (j:=1) rfl (.slice pN j cN))
     have aL:=zh (Fr2.after mq KH (fun i J=>by rw [ik.out,J];omega))
     clear aX H oM G
     go_wp2_with fail
     obtain⟨k2,k3,-⟩:=ac (show((wr.setCell ⟨U,0,none⟩ (.slice O A cT)).setCell ⟨U,1,none⟩ (.slice pN j cN)).heap[U]? = some (.cells #[.slice O A cT,.slice pN j cN] 46 (0,0)) from bc)
     refine bodyPost_ret (v:=.agg #[.slice O A cT,.slice pN j cN]) (by simp [results,Tryz.results8,go_sem,k2,k3]) rfl (HP _ _ ⟨aL,O,cT,pN,cN,rfl,GAt.keptS a4 KH (fun h I ha J=>?_),GAt.keptS xF KH (fun h I ha J=>?_),fun i E L=>(HW.2 i E L).kept aL⟩)
     ·have h1:=dP (by cases A with | zero=>exact absurd (length_eq_zero_iff.1 (by rw [jR,nQ.out])) h | succ n=>omega) I ha
      omega
     ·have h1:=qP (by cases j with | zero=>exact absurd (length_eq_zero_iff.1 (by rw [mP,HM.out])) h | succ n=>omega) I ha
      have:=lj.out
      omega
end Go.Proofs.YtpkipghjohomcaaGreatDoor
