/- Lemmas. -/
import Derived.Deep.CutBlock
import Derived.Deep.DeepCutAuto
import Derived.Test.YtpkipghjohomcaaGreatDoorP3
set_option linter.unusedVariables false
set_option linter.unusedSimpArgs false
set_option maxHeartbeats 16000000
set_option maxRecDepth 100000
namespace Go.Proofs.YtpkipghjohomcaaGreatDoor
open Go.RowKit Go.World
theorem iT {w:World} {r:Nat} {a b c d:Value} {T:TypeId} (h:w.heap[r]? = some (.cells #[a,b,c,d] T (0,0))):w.cell? ⟨r,0,none⟩=some a/\w.cell? ⟨r,1,none⟩=some b/\w.cell? ⟨r,2,none⟩=some c/\w.cell? ⟨r,3,none⟩=some d/\∀o,w.frozen? ⟨r,o,none⟩=false:=
 ⟨by rw [hZ w r 0 _ T (0,0) h];rfl,by rw [hZ w r 1 _ T (0,0) h];rfl,by rw [hZ w r 2 _ T (0,0) h];rfl,by rw [hZ w r 3 _ T (0,0) h];rfl,fun o=>by simp [World.frozen?,h]⟩
theorem vE (k p:Int) (x y:ByteArray) (w:World) (hx:x.size<=1000000) (hy:y.size<=1000000):
  Calls Tryz.prog 74 #[.agg #[.int .i64 k,.string x,.string y,.int .i64 p]] w (bp (.agg #[.int .i64 k,.string x,.string y,.int .i64 p]) w):=by
 have HX:=zh (fun W=>n6 x W (by omega))
 have HY:=zh (fun W=>n6 y W (by omega))
 clear hx hy
 go_enter Tryz.func74,Tryz.ntmps74
 go_wp2_with fail
 have O:=YK w (.cells #[.int .i64 k,.string x,.string y,.int .i64 p] 91)
 have kt:=qn w (.cells #[.int .i64 k,.string x,.string y,.int .i64 p] 91) none
 have rW:(w.alloc (.cells #[.int .i64 k,.string x,.string y,.int .i64 p] 91)).heap.size=w.heap.size+1:=by simp
 generalize (w.alloc (.cells #[.int .i64 k,.string x,.string y,.int .i64 p] 91))=J at *
 have E:=YK J (.cells #[.int .i64 0,.string ⟨#[]⟩,.string ⟨#[]⟩,.int .i64 0] 91)
 have Z:=qn J (.cells #[.int .i64 0,.string ⟨#[]⟩,.string ⟨#[]⟩,.int .i64 0] 91) none
 rw [rW] at E
 generalize (J.alloc (.cells #[.int .i64 0,.string ⟨#[]⟩,.string ⟨#[]⟩,.int .i64 0] 91))=W at *
 obtain⟨m,R⟩:=zx w.heap.size
 have ik:=zh R
 rw [R] at O E ⊢
 obtain⟨A,eg⟩:=zx (m+1)
 rw [eg] at E ⊢
 have hlt:m<A:=by omega
 have G:=zh (bx Z O);have HB:=zh E;have kD:=zh (aa kt Z)
 clear O E kt Z rW R eg
 obtain⟨a0,a1,a2,a3,a4⟩:=iT G
 go_region_with (first
  | (go_at_call 32;refine(HX.out _).mono ?_;rintro ao w2 ⟨rfl,L⟩;clear HX;have H:=zh (bx (o:=.cells #[.int .i64 k,.string x,.string y,.int .i64 p] 91) L (by first | exact G.out | exact B.out | exact ab (i:=2) (u:=.string y) B.out));obtain⟨c0,c1,c2,c3,c4⟩:=iT H.out;have Y:Hid (Fr2 (fun k=>k=m) W w2):=zh (Fr2.trans (by first | exact I.out | exact I.out.setCell rfl _ | exact Fr2.none (by repeat (with_reducible first | exact ad _ _ | refine aC ?_))) (Fr2.none L));clear L)
  | (go_at_call 32;refine(HY.out _).mono ?_;rintro ao w3 ⟨rfl,U⟩;clear HY;have B:=zh (bx (o:=.cells #[.int .i64 k,.string x,.string y,.int .i64 p] 91) U (by first | exact G.out | exact H.out | exact ab (i:=1) (u:=.string x) H.out));obtain⟨d0,d1,d2,d3,d4⟩:=iT B.out;have I:Hid (Fr2 (fun k=>k=m) W w3):=zh (Fr2.trans (by first | exact Y.out | exact Y.out.setCell rfl _ | exact Fr2.none (by repeat (with_reducible first | exact ad _ _ | refine aC ?_))) (Fr2.none U));clear U))
 all_goals
  have ak:=zh (show((w3.setCell ⟨m,1,none⟩ (.string x)).setCell ⟨m,2,none⟩ (.string y)).heap[m]? = some (.cells #[.int .i64 k,.string x,.string y,.int .i64 p] 91 (0,0)) from ab (i:=2) (u:=.string y) (ab (i:=1) (u:=.string x) B))
  have TD:=zh ((I.setCell (g:=m) (j:=1) rfl (.string x)).setCell (g:=m) (j:=2) rfl (.string y))
  have C6:=zh (TD.keep HB (by omega))
  generalize ((w3.setCell ⟨m,1,none⟩ (.string x)).setCell ⟨m,2,none⟩ (.string y))=W4 at *
  clear G HB a0 a1 a2 a3 a4 c0 c1 c2 c3 c4 d0 d1 d2 d3 d4 H B Y I
  obtain⟨a0,a1,a2,a3,a4⟩:=iT ak
  obtain⟨c0,c1,c2,c3,c4⟩:=iT C6
  have uz:=zh (ab (i:=3) (u:=.int .i64 p) (ab (i:=2) (u:=.string y) (ab (i:=1) (u:=.string x) (ab (i:=0) (u:=.int .i64 k) C6))))
  have Eo:=zh (((((TD.mono (S':=fun k=>k=m\/k=A) (fun _ h=>.inl h)).setCell (g:=A) (j:=0) (.inr rfl) (.int .i64 k)).setCell (g:=A) (j:=1) (.inr rfl) (.string x)).setCell (g:=A) (j:=2) (.inr rfl) (.string y)).setCell (g:=A) (j:=3) (.inr rfl) (.int .i64 p))
  go_wp2_with fail
  obtain⟨k0,k1,k2,k3,-⟩:=iT uz
  refine bodyPost_ret (v:=.agg #[.int .i64 k,.string x,.string y,.int .i64 p]) (by simp [results,Tryz.results74,go_sem,k0,k1,k2,k3]) rfl ⟨rfl,Fr2.after kD Eo (fun j hj=>by rw [ik.out];omega)⟩
set_option maxHeartbeats 8000000
open Go.RowKit List Nat Go.World
theorem WZ:(Tryz.prog.info? 91).map (fun m=>(m.zero,m.size,m.bytes))=some (some (.agg #[.int .i64 0,.string ⟨#[]⟩,.string ⟨#[]⟩,.int .i64 0]),4,48):=by kernel_rfl
theorem OU:(Tryz.prog.info? 92).map (fun m=>(m.zero,m.size,m.bytes))=some (some (.agg #[.int .i64 0,.int .i64 0,.slice none 0 0]),3,40):=by kernel_rfl
def nD (l:List Tok):List (List Value):=l.map oK
theorem lA (l:List Tok):(nD l).length=l.length:=length_map _
theorem Kk {l:List Tok} {k:Nat} {t:Tok} (h:l[k]? = some t):(nD l).take (k+1)=(nD l).take k++[oK t]:=by
 rw [take_add_one];unfold nD;rw [getElem?_map,h];rfl
theorem EJ {w:World} {p:Option Addr} {l:List Tok} (h:GAt 4 w p (nD l)):TAt w p l:=by
 rcases h with h | ⟨E,I,rfl,H,B⟩
 ·exact .inl (map_eq_nil_iff.1 h)
 ·refine .inr ⟨E,I,rfl,H,fun m J G=>?_⟩
  have A:(nD l)[m]? = some (oK J):=by unfold nD;rw [getElem?_map,G];rfl
  exact⟨B m _ A 0 _ rfl,B m _ A 1 _ rfl,B m _ A 2 _ rfl,B m _ A 3 _ rfl⟩
theorem Lp (t:Tok):∀u∈oK t,u.oneCell'=true:=fun u m=>by unfold oK aD at m;simp at m;rcases m with rfl | rfl | rfl | rfl<;>rfl
def UL (l:List Tok) (w:World) (e:Ending) (A:World):Prop:=∃m,e=.returned m/\ag 4 91 A w.heap.size m (nD l)/\w.grownBy A none
def vR (l:List Tok):Prop:=∀m∈l,m.lead.length<=1000000/\m.text.length<=1000000
theorem tD (l:List Tok) (q:Option Addr) (c:Nat) (w:World) (hl:l.length<=100000) (hs:vR l) (h:TAt w q l):
  Calls Tryz.prog 73 #[.slice q l.length c] w (UL l w):=by
 obtain⟨m,hm⟩:=zx l.length
 have O:=zh hm;have HA:=zh h;have qm:=zh hs
 rw [hm] at hl ⊢
 clear hm h hs
 obtain⟨B,hB⟩:=zx w.heap.size
 have ik:=zh hB
 have HP:Hid (∀I w',ag 4 91 w' B I (nD l)->Below B w w'->UL l w (.returned I) w'):=zh (fun I w' Z h2=>⟨I,rfl,by rw [hB];exact Z,bj (by rw [hB];exact h2)⟩)
 clear hB
 go_enter Tryz.func73,Tryz.ntmps73
 go_wp2_with fail
 go_loopw [3,8] (fun ov iv wr=>∃A:Nat,A<=m/\iv=.int .i64 A/\Hid (ag 4 91 wr B ov ((nD l).take A))/\Hid (Below B w wr)) (fun _ I _=>m - (intOf I).toNat)
 case atStart=>exact⟨0,zero_le _,rfl,zh (ag.nil _ _ _ _),zh (Below.refl _ _)⟩
 case round=>
  obtain⟨A,hk,rfl,R,L⟩:=hrel
  have H:Hid (w.grownBy wr none):=zh (bj (by rw [ik.out];exact L))
  by_cases hlt:A<m
  ·have d1:=zE ((A:Int)<(m:Int))
   have ml:decide (A<m)=true:=zd hlt
   obtain⟨t,ht⟩:∃t,l[A]? = some t:=⟨l[A]'(by rw [O.out];exact hlt),QS _⟩
   obtain⟨ap,au,rfl,bN,hc⟩:=HA.resolve_left (fun h=>by have Z:=O.out;rw [h] at Z;simp at Z;omega)
   obtain⟨c0,U,Y,c3⟩:=hc A t ht
   have c0:=H.cell c0 (by simp)
   have U:=H.cell U (by simp)
   have Y:=H.cell Y (by simp)
   have c3:=H.cell c3 (by simp)
   have cu:=zh (Kk ht)
   obtain⟨YB,IG⟩:=qm t (gn ht)
   unfold aD at U Y
   obtain⟨E,hx⟩:∃E:ByteArray,(⟨t.lead.toArray⟩:ByteArray)=E:=⟨_,rfl⟩
   obtain⟨G,hy⟩:∃G:ByteArray,(⟨t.text.toArray⟩:ByteArray)=G:=⟨_,rfl⟩
   have Xu:E.size<=1000000:=by rw [<-aQ,<-hx];exact YB
   have kw:G.size<=1000000:=by rw [<-aQ,<-hy];exact IG
   have GA:Hid (oK t = [.int .i64 (t.kind:Int),.string E,.string G,.int .i64 (t.pos:Int)]):=zh (by unfold oK aD;rw [hx,hy])
   rw [hx] at U
   rw [hy] at Y
   have ao:=zh (Lp t)
   have ur:Hid (((nD l).take A).length<=1000000):=zh (by rw [length_take,lA,O.out];omega)
   have jw:Hid (((nD l).take A).length=A):=zh (by rw [length_take,lA,O.out];omega)
   have SQ:=zh (fun W=>vE (t.kind:Int) (t.pos:Int) E G W Xu kw)
   generalize (t.kind:Int)=tk at *
   generalize (t.pos:Int)=tp at *
   generalize (nD l).take A=LK at R cu ur jw
   have oT:=qn wr (.cells #[.int .i64 tk,.string E,.string G,.int .i64 tp] 91) none
   have HX:=zh (YK wr (.cells #[.int .i64 tk,.string E,.string G,.int .i64 tp] 91))
   have BI:ap<wr.heap.size:=zn bN H.size
   clear hc hx hy Xu kw YB IG ht
   go_wp2_with fail
   refine(SQ _).mono ?_
   rintro ak J ⟨rfl,bL⟩
   have bF:=zh (aa oT bL)
   have jN:=zh (R.kept bF)
   have bP:=zh (Below.trans2 L (Below.gb bF (by have:=L.size;have:=ik.out;omega)))
   have ec:B<=J.heap.size:=by have:=bP.size;have:=ik.out;omega
   clear bL oT HX R L H c0 U Y c3
   go_wp2_with (at_builtin;go_loud (refine gm (s:=4) (t:=23) (T:=91) (by decide) Tryz.underlying23 WZ rfl (by omega) rfl _ _ rfl B LK (oK t) (by rw [GA.out];rfl) ao u3 rfl (ag.kept jN (qn J _ none)) J.heap.size _ (by rw [GA.out]) (YK J _) rfl ur (by simp;omega) (J.heap.size+1) (by simp) ?_))
   intro g9 aq w9 fM bH _
   rw [<-cu.out,jw.out] at fM
   have ji:=zh fM
   have fW:=zh ((Below.trans2 bP (Below.gb (qn J _ none) ec)).grown bH (by simp;omega) (fun A ak=>(ag.at jN A ak).1))
   rw [jw.out]
   clear fM bH jN bP
   go_wp2_with fail
   go_roundw
   case rel=>exact⟨A+1,by omega,by go_num,ji,fW⟩
   case measure=>(simp [intOf]<;>omega)
  ·obtain rfl:A=m:=by omega
   rw [V7 (l:=nD l) (i:=A) (by rw [lA,O.out];exact Nat.le_refl _)] at R
   go_wp2_with fail
   go_ret
   exact HP _ _ R L
theorem eO {w:World} {r:Nat} {a b c:Value} {T:TypeId} (h:w.heap[r]? = some (.cells #[a,b,c] T (0,0))):w.cell? ⟨r,0,none⟩=some a/\w.cell? ⟨r,1,none⟩=some b/\w.cell? ⟨r,2,none⟩=some c/\∀o,w.frozen? ⟨r,o,none⟩=false:=
 ⟨by rw [hZ w r 0 _ T (0,0) h];rfl,by rw [hZ w r 1 _ T (0,0) h];rfl,by rw [hZ w r 2 _ T (0,0) h];rfl,fun o=>by simp [World.frozen?,h]⟩
def UA (k t:Int) (l:List Int) (w:World) (e:Ending) (B:World):Prop:=w.grownBy B none/\∃A E,e=.returned (.agg #[.int .i64 k,.int .i64 t,.slice A l.length E])/\VAt B A (ar l)/\l.length<=E/\(l≠[]->∀m,A=some m->w.heap.size<=m.block/\m.block<B.heap.size)
theorem zp (k t:Int) (l:List Int) (q:Option Addr) (c:Nat) (w:World) (hl:l.length<=100000) (h:VAt w q (ar l)):
  Calls Tryz.prog 75 #[.agg #[.int .i64 k,.int .i64 t,.slice q l.length c]] w (UA k t l w):=by
 have HP:Hid (∀Z Y c w',Y=l.length->w.grownBy w' none->iG w' w.heap.size (.slice Z Y c) l->UA k t l w (.returned (.agg #[.int .i64 k,.int .i64 t,.slice Z Y c])) w'):=zh (fun Z Y c w' hn hg ho=>by
  subst hn
  obtain⟨p',c',H,hv,J,-,h2⟩:=ho.parts
  injection H with e1 e2 e3
  subst e1;subst e3
  exact⟨hg,Z,c,rfl,hv,J,fun bc ax ha=>⟨h2 bc ax ha,by
   subst ha
   obtain⟨g,aX,H,hl,-⟩:=hv.resolve_left (fun h0=>bc (length_eq_zero_iff.1 (by have:=congrArg List.length h0;rwa [bh] at this)))
   cases H;exact hl⟩⟩)
 have HV:=zh h
 have fP:Hid ((one (ar l)).length=l.length):=zh (by rw [dM,bh])
 obtain⟨m,hm⟩:=zx l.length
 rw [hm] at HP fP hl ⊢
 clear hm h
 go_enter Tryz.func75,Tryz.ntmps75
 have HZ:=zh (ag.nil 1 3)
 have hA:=YK w (.cells #[.int .i64 k,.int .i64 t,.slice q m c] 92)
 have kt:=qn w (.cells #[.int .i64 k,.int .i64 t,.slice q m c] 92) none
 have rW:(w.alloc (.cells #[.int .i64 k,.int .i64 t,.slice q m c] 92)).heap.size=w.heap.size+1:=by simp
 go_upto_region 1 with fail
 generalize (w.alloc (.cells #[.int .i64 k,.int .i64 t,.slice q m c] 92))=O at *
 have L:=YK O (.cells #[.int .i64 0,.int .i64 0,.slice none 0 0] 92)
 have mD:=qn O (.cells #[.int .i64 0,.int .i64 0,.slice none 0 0] 92) none
 have PP:(O.alloc (.cells #[.int .i64 0,.int .i64 0,.slice none 0 0] 92)).heap.size=w.heap.size+2:=by simp [rW]
 rw [rW] at L
 generalize (O.alloc (.cells #[.int .i64 0,.int .i64 0,.slice none 0 0] 92))=W at *
 obtain⟨A,U⟩:=zx w.heap.size
 have ik:=zh U
 rw [U] at hA L PP ⊢
 obtain⟨B,eg⟩:=zx (A+1)
 rw [eg] at L ⊢
 have hlt:A<B:=by omega
 have cB:B<W.heap.size:=by omega
 have NB:A+2<=W.heap.size:=by omega
 have fa:B<A+2:=by omega
 have HA:=zh (bx mD hA);have HB:=zh L;have kD:=zh (aa kt mD)
 have av:=zh (FP (HV.kept kD))
 clear hA L kt mD rW PP U eg
 obtain⟨a0,a1,a2,a3⟩:=eO HA
 go_wp2_with (at_builtin;go_loud (refine jA (s:=1) (t:=52) (T:=3) (by decide) Tryz.underlying52 zm rfl (by omega) rfl _ _ rfl (A+2) [] (one (ar l)) (lS (gX l)) (.slice none 0 0) rfl (HZ _ _) q m c rfl fP av (by simp) (by omega) NB ?_))
 intro I E G w9 au R uJ bH
 obtain rfl:E=m:=by simpa using au
 have R:ag 1 3 w9 (A+2) (.slice I E G) (one (ar l)):=R
 have ji:=zh R
 have fW:=zh uJ
 have ak:=(uJ.block A (by omega)).trans HA
 have ao:=(uJ.block B (by omega)).trans HB
 have ay:=ab (i:=2) (u:=.slice I E G) ak
 have gB:=zh (Fr2.setCell (S:=fun k=>k=A\/k=B) (Fr2.refl _ w9) (g:=A) (j:=2) (.inl rfl) (.slice I E G))
 have aq:=(Below.heap_setCell w9 ⟨A,2,none⟩ (.slice I E G) B (by first | omega | (simp;omega))).trans ao
 obtain⟨d0,d1,d2,d3⟩:=eO ak
 obtain⟨f0,f1,f2,f3⟩:=eO ao
 have aJ:=zh (ab (i:=2) (u:=.slice I E G) (ab (i:=1) (u:=.int .i64 t) (ab (i:=0) (u:=.int .i64 k) aq)))
 have ap:=zh (((gB.setCell (g:=B) (j:=0) (.inr rfl) (.int .i64 k)).setCell (g:=B) (j:=1) (.inr rfl) (.int .i64 t)).setCell (g:=B) (j:=2) (.inr rfl) (.slice I E G))
 clear au R uJ bH a0 a1 a2 a3 HA HB ak ao ay aq gB
 go_wp2_with fail
 obtain⟨k0,k1,k2,-⟩:=eO aJ
 refine bodyPost_ret (v:=.agg #[.int .i64 k,.int .i64 t,.slice I E G]) (by simp [results,Tryz.results75,go_sem,k0,k1,k2]) rfl (HP _ _ _ _ rfl ?_ ?_)
 ·exact Fr2.after (aa kD (ad _ _)) ((Fr2.ofBelow fW).mono (S':=fun j=>A<=j) (fun j hj=>by omega) |>.trans (ap.mono (fun j hj=>by omega))) (fun j hj=>by rw [ik.out];exact hj)
 ·have J:=ji.keptF ap (fun j H=>by have:=(ag.at ji j H).1;omega)
  rw [ik.out]
  exact⟨⟨J.1.1,J.1.2.imp id fun ⟨g,aL,ep,H,U,aO⟩=>⟨g,aL,ep,H,by omega,aO⟩⟩,J.2⟩
open Go.RowKit List Go.World
abbrev Kf:=Nat->Option Addr×Nat
structure Bld (w:World) (b:Nat) (pt:Option Addr) (ct:Nat) (l:List Tok) (u:Nat) (vn:Value) (N:List Nd) (K:Kf):Prop where
 box:w.heap[b]? = some (.cells #[.slice pt l.length ct,.int .i64 (u:Int),vn] 144 (0,0))
 cap:l.length<=ct
 toks:TAt w pt l
 tlow:l≠[]->∀a,pt=some a->a.block<b
 own:ag 3 92 w (b+1) vn (iZ K N)
 kids:Bv w N K
 khi:∀(i:Nat) (x:Nd),N[i]? = some x->x.kids≠[]->∀a,(K i).1=some a->b<a.block/\a.block<w.heap.size/\vn.ownBlock≠some a.block
def ub (b:Nat) (vn:Value):Nat->Prop:=fun m=>m=b\/vn.ownBlock=some m
def uq (w:World) (b:Nat) (l:List Tok) (u:Nat) (N:List Nd) (vn:Value):Prop:=∃B A m,Bld w b B A l u vn N m
theorem Bi (K:Kf) (n:Nat) (p:Option Addr) (c:Nat):∃m:Kf,m n=(p,c)/\∀i,i≠n->m i=K i:=
 ⟨fun i=>if i=n then (p,c) else K i,by simp,fun i A=>by simp [A]⟩
theorem sO {K m:Kf} {N:List Nd} {x:Nd} {p:Option Addr} {c:Nat} (A:m N.length=(p,c)) (B:∀i,i≠N.length->m i=K i):iZ m (N++[x])=iZ K N++[[.int .i64 x.kind,.int .i64 x.tok,.slice p x.kids.length c]]:=by
 unfold iZ
 rw [mapIdx_append]
 congr 1
 ·refine ext_getElem? fun i=>?_
  rw [getElem?_mapIdx,getElem?_mapIdx]
  by_cases E:i<N.length
  ·rw [QS E];simp [ndV,B i (by omega)]
  ·rw [getElem?_eq_none (by omega)];rfl
 ·simp [ndV,A]
theorem jD (K:Kf) (N:List Nd):(iZ K N).length=N.length:=length_mapIdx
theorem Bld.kept {w G:World} {b:Nat} {pt:Option Addr} {ct:Nat} {l:List Tok} {u:Nat} {vn:Value} {N:List Nd} {K:Kf} (h:Bld w b pt ct l u vn N K) (m:w.grownBy G none):Bld G b pt ct l u vn N K:=
 ⟨bx m h.box,h.cap,h.toks.kept m,h.tlow,h.own.kept m,fun B E A=>(h.kids B E A).kept m,fun B E A R H O=>by
  obtain⟨I,J,L⟩:=h.khi B E A R H O
  exact⟨I,zn J m.size,L⟩⟩
theorem uq.kept {w m:World} {b:Nat} {l:List Tok} {u:Nat} {N:List Nd} {vn:Value} (h:uq w b l u N vn) (E:w.grownBy m none):uq m b l u N vn:=by
 obtain⟨G,B,A,h⟩:=h
 exact⟨G,B,A,h.kept E⟩
theorem Bld.keptF {S:Nat->Prop} {w Z:World} {b:Nat} {pt:Option Addr} {ct:Nat} {l:List Tok} {u:Nat} {vn:Value} {N:List Nd} {K:Kf} (h:Bld w b pt ct l u vn N K) (B:Fr2 S w Z) (Y:∀k,k<=b->¬S k) (hv:∀k,vn.ownBlock=some k->¬S k)
  (hk:∀(i:Nat) (x:Nd),N[i]? = some x->x.kids≠[]->∀a,(K i).1=some a->¬S a.block):Bld Z b pt ct l u vn N K:=by
 refine⟨B.keep h.box (Y b (Nat.le_refl _)),h.cap,?_,h.tlow,h.own.keptF B hv,fun i x H=>?_,fun i x H hn a ha=>?_⟩
 ·rcases h.toks with A | ⟨m,R,rfl,G,J⟩
  ·exact .inl A
  ·by_cases A:l = []
   ·exact .inl A
   ·have I:=h.tlow A _ rfl
    simp at I
    have E:=B.block m G (Y m (by omega))
    refine .inr ⟨m,R,rfl,zn G B.size,fun O ak L=>?_⟩
    obtain⟨c0,c1,c2,c3⟩:=J O ak L
    exact⟨(cell?_of_block (a:=⟨m,_,none⟩) E).trans c0,(cell?_of_block (a:=⟨m,_,none⟩) E).trans c1,(cell?_of_block (a:=⟨m,_,none⟩) E).trans c2,(cell?_of_block (a:=⟨m,_,none⟩) E).trans c3⟩
 ·rcases h.kids i x H with A | ⟨m,R,U,G,J⟩
  ·exact .inl A
  ·by_cases A:x.kids = []
   ·exact .inl (by rw [A];rfl)
   ·have E:=B.block m G (hk i x H A _ U)
    exact .inr ⟨m,R,U,zn G B.size,fun O ao L=>(cell?_of_block (a:=⟨m,_,none⟩) E).trans (J O ao L)⟩
 ·obtain⟨I,h2,h3⟩:=h.khi i x H hn a ha
  exact⟨I,zn h2 B.size,h3⟩
theorem VAt.keptF {S:Nat->Prop} {w I:World} {p:Option Addr} {A:List Value} (h:VAt w p A) (G:Fr2 S w I) (J:A≠[]->∀a,p=some a->¬S a.block):VAt I p A:=by
 rcases h with m | ⟨B,Y,E,H,O⟩
 ·exact .inl m
 ·by_cases m:A = []
  ·exact .inl m
  ·have L:=G.block B H (J m _ E)
   exact .inr ⟨B,Y,E,zn H G.size,fun U Z R=>(cell?_of_block (a:=⟨B,_,none⟩) L).trans (O U Z R)⟩
theorem TAt.keptF {S:Nat->Prop} {w I:World} {p:Option Addr} {l:List Tok} (h:TAt w p l) (G:Fr2 S w I) (U:l≠[]->∀a,p=some a->¬S a.block):TAt I p l:=by
 rcases h with A | ⟨m,ao,E,H,Y⟩
 ·exact .inl A
 ·by_cases A:l = []
  ·exact .inl A
  ·have B:=G.block m H (U A _ E)
   refine .inr ⟨m,ao,E,zn H G.size,fun ak ap Z=>?_⟩
   obtain⟨J,L,O,R⟩:=Y ak ap Z
   exact⟨(cell?_of_block (a:=⟨m,_,none⟩) B).trans J,(cell?_of_block (a:=⟨m,_,none⟩) B).trans L,(cell?_of_block (a:=⟨m,_,none⟩) B).trans O,(cell?_of_block (a:=⟨m,_,none⟩) B).trans R⟩
theorem VAt.lt {w:World} {p:Option Addr} {A:List Value} (h:VAt w p A) (B:A≠[]):∀a,p=some a->a.block<w.heap.size:=fun a E=>by
 obtain⟨H,I,m,G,-⟩:=h.resolve_left B
 rw [E] at m;cases m;exact G
theorem ez {l:List Int} (h:ar l≠[]):l≠[]:=fun m=>h (by rw [m];rfl)
theorem vm {l:List Int} (h:l≠[]):ar l≠[]:=fun m=>h (length_eq_zero_iff.1 (by have:=congrArg List.length m;rwa [bh] at this))
theorem Bld.turn {w:World} {b:Nat} {pt:Option Addr} {ct:Nat} {l:List Tok} {u:Nat} {vn:Value} {N:List Nd} {K:Kf} (h:Bld w b pt ct l u vn N K):∀k,vn.ownBlock=some k->b<k/\k<w.heap.size:=fun k m=>by
 obtain⟨A,B⟩:=ag.at h.own k m;omega
theorem Bld.add {w Z:World} {b:Nat} {pt:Option Addr} {ct:Nat} {l:List Tok} {u u':Nat} {vn:Value} {N:List Nd} {K:Kf} (h:Bld w b pt ct l u vn N K) (O:Fr2 (ub b vn) w Z) {I Y R:Nat} (fA:Z.heap[b]? = some (.cells #[.slice pt l.length ct,.int .i64 (u':Int),.slice (some ⟨I,0,none⟩) Y R] 144 (0,0)))
  {x:Nd} {p:Option Addr} {c:Nat} (eF:ag 3 92 Z (b+1) (.slice (some ⟨I,0,none⟩) Y R) (iZ K N++[[.int .i64 x.kind,.int .i64 x.tok,.slice p x.kids.length c]])) (hk:VAt w p (ar x.kids)) (uH:x.kids≠[]->∀a,p=some a->b<a.block/\vn.ownBlock≠some a.block)
  (el:vn.ownBlock=some I\/w.heap.size<=I):uq Z b l u' (N++[x]) (.slice (some ⟨I,0,none⟩) Y R):=by
 obtain⟨K',UR,UP⟩:=Bi K N.length p c
 have gW:∀(A:Nat) (G:Nd),(N++[x])[A]? = some G->(A<N.length/\N[A]? = some G/\K' A=K A)\/(A=N.length/\G=x/\K' A=(p,c)):=fun A G B=>by
  by_cases hi:A<N.length
  ·rw [getElem?_append_left hi] at B;exact .inl ⟨hi,B,UP A (by omega)⟩
  ·have H:=(Q4.1 B).1
   rw [Q2,length_singleton] at H
   obtain rfl:A=N.length:=by omega
   rw [getElem?_append_right (Nat.le_refl _)] at B
   simp at B
   exact .inr ⟨rfl,B.symm,UR⟩
 refine⟨pt,ct,K',fA,h.cap,h.toks.keptF O (fun L a E=>?_),h.tlow,by rw [sO UR UP];exact eF,fun A G B=>?_,fun A G B hn a E=>?_⟩
 ·have H:=h.tlow L a E
  rintro(m | m)
  ·omega
  ·have:=(h.turn _ m).1;omega
 ·rcases gW A G B with ⟨-,B,m⟩ | ⟨-,rfl,m⟩
  ·rw [m]
   refine(h.kids A G B).keptF O fun L a E=>?_
   obtain⟨H,U,J⟩:=h.khi A G B (ez L) a E
   rintro(m | m)
   ·omega
   ·exact J m
  ·rw [m]
   refine hk.keptF O fun L a E=>?_
   obtain⟨H,J⟩:=uH (ez L) a E
   rintro(m | m)
   ·omega
   ·exact J m
 ·have UH:∀ak,(Value.slice (some ⟨I,0,none⟩) Y R).ownBlock=some ak->I=ak:=fun ak m=>by simpa [Value.ownBlock] using m
  rcases gW A G B with ⟨-,B,m⟩ | ⟨-,rfl,m⟩
  ·rw [m] at E
   obtain⟨H,U,J⟩:=h.khi A G B hn a E
   refine⟨H,zn U O.size,fun e9=>?_⟩
   have:=UH _ e9
   subst this
   rcases el with h | h
   ·exact J h
   ·omega
  ·rw [m] at E
   obtain⟨H,J⟩:=uH hn a E
   have U:=hk.lt (vm hn) a E
   refine⟨H,zn U O.size,fun e9=>?_⟩
   have:=UH _ e9
   subst this
   rcases el with h | h
   ·exact J h
   ·omega
def uR (w:World) (b:Nat) (l:List Tok) (u:Nat) (N:List Nd) (x:Nd) (vn:Value) (e:Ending) (B:World):Prop:=
 e=.returned (.int .i64 (N.length:Int))/\∃A,uq B b l u (N++[x]) A/\Fr2 (ub b vn) w B/\∀m,A.ownBlock=some m->vn.ownBlock=some m\/w.heap.size<=m
def Ij (l:List Tok) (w:World) (e:Ending) (A:World):Prop:=
 ∃m,e=.returned (.pointer (some ⟨m,0,none⟩))/\w.heap.size<=m/\uq A m l 0 [] (.slice none 0 0)/\w.grownBy A none
theorem qt (l:List Tok) (q:Option Addr) (c:Nat) (w:World) (Z:l.length<=100000) (hs:vR l) (h:TAt w q l):
  Calls Tryz.prog 44 #[.slice q l.length c] w (Ij l w):=by
 have R:=zh (tD l q c w Z hs h)
 have O:Hid (∀m B c,ag 4 91 m w.heap.size (.slice B l.length c) (nD l)->w.grownBy m none->Ij l w (.returned (.pointer (some ⟨m.heap.size,0,none⟩))) (m.alloc (.cells #[.slice B l.length c,.int .i64 0,.slice none 0 0] 144))):=zh (fun m B c E G=>by
  have U:=qn m (.cells #[.slice B l.length c,.int .i64 0,.slice none 0 0] 144) none
  obtain⟨p',I,A,ht,Y,-,-⟩:=E.is
  rw [lA] at A Y
  injection A with e1 e2 e3
  subst e1;subst e3
  refine⟨m.heap.size,rfl,G.size,⟨B,c,fun _=>(none,0),YK m _,Y,(EJ ht).kept U,fun h0 ap ha=>?_,ag.nil _ _ _ _,fun ak ao J=>by simp at J,fun ak ao J=>by simp at J⟩,aa G U⟩
  obtain⟨aq,av,A,hlt,-⟩:=(EJ ht).resolve_left h0
  rw [ha] at A;cases A;exact hlt)
 have L:Hid (∀H m,ag 4 91 m w.heap.size H (nD l)->∃B c,H=.slice B l.length c):=zh (fun H m E=>by
  obtain⟨p',I,A,-⟩:=E.is
  rw [lA] at A
  exact⟨p',I,A⟩)
 obtain⟨au,hm⟩:=zx l.length
 rw [hm] at R O L ⊢
 clear hm h hs Z
 go_enter Tryz.func44,Tryz.ntmps44
 go_wp2_with fail
 refine R.mono ?_
 rintro A w1 ⟨H,rfl,E,G⟩
 obtain⟨B,I,rfl⟩:=L _ _ E
 have HO:=zh E;have HG:=zh G
 clear E G
 go_wp2_with fail
 go_ret
 exact O _ _ _ HO HG
theorem uR.after {w B:World} {b:Nat} {l:List Tok} {u:Nat} {N:List Nd} {x:Nd} {vn:Value} {e:Ending} {A:World} (h:uR B b l u N x vn e A) (m:Fr2 (ub b vn) w B):uR w b l u N x vn e A:=by
 obtain⟨J,E,G,H,I⟩:=h
 exact⟨J,E,G,m.trans H,fun O L=>(I O L).imp id fun h=>Nat.le_trans m.size h⟩
theorem Bld.setUsed {w:World} {b:Nat} {pt:Option Addr} {ct:Nat} {l:List Tok} {u:Nat} {vn:Value} {N:List Nd} {K:Kf} (h:Bld w b pt ct l u vn N K) (G:Nat):Bld (w.setCell ⟨b,1,none⟩ (.int .i64 (G:Int))) b pt ct l G vn N K:=by
 have B:=Fr2.setCell (S:=fun L=>L=b) (Fr2.refl _ w) (g:=b) (j:=1) rfl (.int .i64 (G:Int))
 refine⟨ab (i:=1) (u:=.int .i64 (G:Int)) h.box,h.cap,h.toks.keptF B (fun J m A I=>by have:=h.tlow J m A;omega),h.tlow,h.own.keptF B (fun L I Z=>by have:=(h.turn L I).1;omega),fun i H E=>(h.kids i H E).keptF B fun J m A I=>?_,fun i H E Y m A=>?_⟩
 ·have:=(h.khi i H E (ez J) m A).1;omega
 ·obtain⟨O,R,U⟩:=h.khi i H E Y m A
  exact⟨O,zn R B.size,U⟩
theorem yI (b:Nat) (l:List Tok) (u:Nat) (N:List Nd) (vn:Value) (kind:Int) (m:List Int) (q:Option Addr) (c:Nat) (w:World) (U:N.length<=100000) (Y:m.length<=100000) (h:uq w b l u N vn) (L:VAt w q (ar m)) (O:okB N.length m=false):
  Calls Tryz.prog 50 #[.pointer (some ⟨b,0,none⟩),.int .i64 kind,.slice q m.length c] w (bp (.int .i64 (-1)) w):=by
 obtain⟨pt,ct,Z,h⟩:=h
 have E:=h.box
 obtain⟨pv,cv,H,-,-,-⟩:=h.own.is
 rw [jD] at H
 subst H
 have A:=zh (tI N.length m q c w (by omega) (by omega) L)
 rw [O] at A
 obtain⟨ap,J⟩:=zx l.length
 obtain⟨ak,G⟩:=zx N.length
 obtain⟨kl,B⟩:=zx m.length
 rw [J,G] at E
 rw [G,B] at A
 rw [B]
 obtain⟨d0,d1,d2,d3⟩:=eO E
 clear E J h G B O L Y U
 go_enter Tryz.func50,Tryz.ntmps50
 go_wp2_with fail
 refine A.mono ?_
 rintro ao w1 ⟨rfl,I⟩
 have R:=zh I
 clear I
 go_wp2_with fail
 go_ret
 exact⟨rfl,R⟩
end Go.Proofs.YtpkipghjohomcaaGreatDoor
