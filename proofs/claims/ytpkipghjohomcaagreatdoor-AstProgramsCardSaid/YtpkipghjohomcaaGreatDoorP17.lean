/- Lemmas. -/
import Derived.Test.YtpkipghjohomcaaGreatDoorP15
import Derived.Test.YtpkipghjohomcaaGreatDoorP16
set_option linter.unusedVariables false
set_option linter.unusedSimpArgs false
set_option maxHeartbeats 4000000
set_option maxRecDepth 100000
namespace Go.Proofs.YtpkipghjohomcaaGreatDoor
open Go.RowKit List
def PAt (F:Nat->Prop) (w:World) (f:Fx) (q:List Value):Prop:=∃m E B,q = [aD f.nm,.int .i64 (f.base:Int),.slice m f.cl.length E,.int .i64 (f.ps:Int),.int .i64 f.bare]/\GAt 8 w m B/\LsE F w f.cl B/\(f.cl≠[]->∃A,m=some A/\F A.block)
theorem PAt.same {F S:Nat->Prop} {w G:World} {f:Fx} {q:List Value} (E:Fr2 S w G) (B:∀k,F k->¬S k) (h:PAt F w f q):PAt F G f q:=by
 obtain⟨O,H,R,J,L,m,A⟩:=h
 exact⟨O,H,R,J,nP (jk m) L (fun I=>A (length_pos_iff.1 I)) E B,LsE.same E B m,A⟩
theorem PAt.mono {F F':Nat->Prop} {w:World} {f:Fx} {q:List Value} (m:∀k,F k->F' k) (h:PAt F w f q):PAt F' w f q:=by
 obtain⟨R,B,U,G,H,I,J⟩:=h
 exact⟨R,B,U,G,H,LsE.mono m I,fun E=>by obtain⟨A,O,L⟩:=J E;exact⟨A,O,m _ L⟩⟩
theorem PAt.kept {F:Nat->Prop} {w m:World} {f:Fx} {q:List Value} (h:PAt F w f q) (A:w.grownBy m none):PAt F m f q:=PAt.same (S:=fun _=>False) (Fr2.none A) (fun _ _ h=>h) h
theorem PAt.bound {F:Nat->Prop} {w:World} {f:Fx} {q:List Value} (h:PAt F w f q):PAt (fun I=>F I/\I<w.heap.size) w f q:=by
 obtain⟨Y,J,Z,O,B,E,R⟩:=h
 refine⟨Y,J,Z,O,B,LsE.bound E,fun A=>?_⟩
 obtain⟨m,G,U⟩:=R A
 have H:=jk E
 exact⟨m,G,U,GAt.blk B (fun L=>by rw [L] at H;exact A (fb H.symm)) m G⟩
theorem PAt.form {F:Nat->Prop} {w:World} {f:Fx} {q:List Value} (h:PAt F w f q):∃A B m,q = [.string ⟨f.nm.toArray⟩,.int .i64 (f.base:Int),.slice A B m,.int .i64 (f.ps:Int),.int .i64 f.bare]:=by
 obtain⟨A,m,E,rfl,-⟩:=h
 exact⟨A,_,m,rfl⟩
theorem PAt.turn {F:Nat->Prop} {w:World} {f:Fx} {a b c d:Value} {E:Option Addr} {B A:Nat} (h:PAt F w f [a,b,.slice E B A,c,d]) (nm:List UInt8) (base ps:Nat) (bare:Int):PAt F w { f with nm:=nm,base:=base,ps:=ps,bare:=bare } [.string ⟨nm.toArray⟩,.int .i64 (base:Int),.slice E B A,.int .i64 (ps:Int),.int .i64 bare]:=by
 obtain⟨Y,U,R,m,G,H,I⟩:=h
 injection m with _ m;injection m with _ m;injection m with m _;injection m with J L O
 subst J L O
 exact⟨_,_,R,rfl,G,H,I⟩
def GT (x:Fx) (w:World) (e:Ending) (A:World):Prop:=w.grownBy A none/\∃m,e=.returned (.agg m.toArray)/\PAt (fun B=>w.heap.size<=B) A x m
def OkK (T:List Tok):Tr->Prop
 | .lf _=>True
 | .nd A B=>(A=5->∃E,B = [.lf E])/\(A=6->∃G m H,B = [.lf G,m,.lf H]/\isN m=true/\WE T m)
theorem X6 (x:ByteArray) (w:World):Calls Tryz.prog 120 #[.string x] w (bp (.int .i64 (oX x.data.toList:Int)) w):=by
 by_cases h:x.data.toList=ME
 ·have A:(x.toList == [105,110,116])=true:=by rw [toList_data,h];rfl
  have m:oX x.data.toList=1:=by unfold oX;rw [if_pos h]
  rw [m]
  clear h m
  go_enter Tryz.func120,Tryz.ntmps120
  go_wp2_with fail
  go_ret
  exact⟨rfl,ad _ _⟩
 ·have A:(x.toList == [105,110,116])=false:=by rw [toList_data];exact xz.2 h
  have m:oX x.data.toList=2:=by unfold oX;rw [if_neg h]
  rw [m]
  clear h m
  go_enter Tryz.func120,Tryz.ntmps120
  go_wp2_with fail
  go_ret
  exact⟨rfl,ad _ _⟩
theorem Gz {W:World} {B:Nat} {T:TypeId} {U G E A m:Value} (H:W.heap[B]? = some (.cells #[U,G,E,A,m] T (0,0))) (a b c d e:Value):(((((W.setCell ⟨B,0,none⟩ a).setCell ⟨B,1,none⟩ b).setCell ⟨B,2,none⟩ c).setCell ⟨B,3,none⟩ d).setCell ⟨B,4,none⟩ e).heap[B]? = some (.cells #[a,b,c,d,e] T (0,0))/\Fr2 (dm B) W (((((W.setCell ⟨B,0,none⟩ a).setCell ⟨B,1,none⟩ b).setCell ⟨B,2,none⟩ c).setCell ⟨B,3,none⟩ d).setCell ⟨B,4,none⟩ e):=by
 have I:(W.setCell ⟨B,0,none⟩ a).heap[B]? = some (.cells #[a,G,E,A,m] T (0,0)):=ab (i:=0) (u:=a) H
 have J:((W.setCell ⟨B,0,none⟩ a).setCell ⟨B,1,none⟩ b).heap[B]? = some (.cells #[a,b,E,A,m] T (0,0)):=ab (i:=1) (u:=b) I
 have L:(((W.setCell ⟨B,0,none⟩ a).setCell ⟨B,1,none⟩ b).setCell ⟨B,2,none⟩ c).heap[B]? = some (.cells #[a,b,c,A,m] T (0,0)):=ab (i:=2) (u:=c) J
 have O:((((W.setCell ⟨B,0,none⟩ a).setCell ⟨B,1,none⟩ b).setCell ⟨B,2,none⟩ c).setCell ⟨B,3,none⟩ d).heap[B]? = some (.cells #[a,b,c,d,m] T (0,0)):=ab (i:=3) (u:=d) L
 have R:(((((W.setCell ⟨B,0,none⟩ a).setCell ⟨B,1,none⟩ b).setCell ⟨B,2,none⟩ c).setCell ⟨B,3,none⟩ d).setCell ⟨B,4,none⟩ e).heap[B]? = some (.cells #[a,b,c,d,e] T (0,0)):=ab (i:=4) (u:=e) O
 exact⟨R,(Fr2.setCell (Fr2.setCell (Fr2.setCell (Fr2.setCell (Fr2.setCell (Fr2.refl (dm B) W) (g:=B) (j:=0) (aK B) a) (g:=B) (j:=1) (aK B) b) (g:=B) (j:=2) (aK B) c) (g:=B) (j:=3) (aK B) d) (g:=B) (j:=4) (aK B) e)⟩
theorem bC {w:World} {r:Nat} {a b c d e:Value} {T:TypeId} (m:w.heap[r]? = some (.cells #[a,b,c,d,e] T (0,0))):w.cell? ⟨r,0,none⟩=some a/\w.cell? ⟨r,1,none⟩=some b/\w.cell? ⟨r,2,none⟩=some c/\w.cell? ⟨r,3,none⟩=some d/\w.cell? ⟨r,4,none⟩=some e/\∀o,w.frozen? ⟨r,o,none⟩=false:=
 ⟨by rw [hZ w r 0 _ T (0,0) m];rfl,by rw [hZ w r 1 _ T (0,0) m];rfl,by rw [hZ w r 2 _ T (0,0) m];rfl,by rw [hZ w r 3 _ T (0,0) m];rfl,by rw [hZ w r 4 _ T (0,0) m];rfl,fun o=>by simp [World.frozen?,m]⟩
theorem Gw {w:World} {z:Nat} {q:List Value} {T:TypeId} {k:Nat} (h:w.heap[z]? = some (.cells q.toArray T (0,0))):GAt k w (some ⟨z,0,none⟩) [q]:=by
 refine .inr ⟨z,0,rfl,hlt h,fun E G m A H B=>?_⟩
 match E,m with
 | 0,m=>
   simp at m;subst m
   rw [show 0+0*k+A=A by omega,hZ w z A _ T (0,0) h,Q7]
   exact B
theorem CG (T:List Tok) {l:List Tr} {j:Nat} {t:Tr} (h:l[j]? = some t):cm T (l.take (j+1))=gT T (cm T (l.take j)) t:=by
 unfold cm
 rw [gR h,foldl_append];rfl
set_option maxHeartbeats 32000000
open Go.RowKit List Nat Go.World
theorem Il {T:List Tok} {N:List Nd} {K:Kf} (hT:T.length<=150000) (hN:N.length<=150000) {n kd:Nat} {ks:List Int} {l:List Tr} (hx:N[n]? = some ⟨(kd:Int),-1,ks⟩) (dL:KT N n ks l) (dx:fj l) (eB:∀i∈cg l,i<T.length) (fG:bK l<=150000) (eM:∀t∈l,OkK T t) (iS:∀i,(tkT T i).pos<=1000000/\(tkT T i).text.length<=1000000) (pt pn:Option Addr) (ct cn:Nat) (w:World) (ht:TAt w pt T) (hn:al w pn N K) (gP:gF w):
  Calls Tryz.prog 91 #[.agg #[.slice pt T.length ct,.slice pn N.length cn],.int .i64 (n:Int)] w (GT (cm T l) w):=by
 have xS:l.length<=150000:=Nat.le_trans (fw l) fG
 have jm:=zh (fun (n:Nat) (aJ:Nd) W (hx:N[n]? = some aJ) h=>vK (K:=K) hN hx pt pn T.length ct cn W h)
 have bM:=zh (fun (n:Nat) (aJ:Nd) W (hx:N[n]? = some aJ) h=>sJ (K:=K) hN hx pt pn T.length ct cn W h)
 have jw:=zh (fun (n i:Nat) W (hx:N[n]? = some ⟨19,(i:Int),[]⟩) (hi:i<T.length) L h2=>Bs (K:=K) hT hN hx hi pt pn ct cn W L h2)
 have SQ:=zh (fun (n:Nat) (A:Nat) (ks:List Int) (l:List Tr) W (hx:N[n]? = some ⟨(A:Int),-1,ks⟩) (dL:KT N n ks l) (dx:fj l) (eB:∀i∈cg l,i<T.length) (xS:l.length<=150000) L h2=>sg (K:=K) hT hN hx dL dx eB xS pt pn ct cn W L h2)
 have uu:=zh (fun (t:Tr) (kx:Int) W (hs:szR t<=150000) (hg:kQ T N kx t) L h2 h3=>E9 (K:=K) hT hN pt pn ct cn (szR t) t kx W hs (Nat.le_refl _) hg L h2 h3)
 have HX:=zh hx;have kA:=zh dL;have sE:=zh dx;have lY:=zh eB;have lj:=zh fG;have qk:=zh eM;have Gr:=zh iS
 have HT:=zh ht;have HN:=zh hn;have iF:=zh gP
 have zU:=zh (fun W h=>bM n _ W hx h)
 have Cz:Hid (∀W,al W pn N K->VAt W (K n).1 (ar ks)):=zh (fun W h=>h.2 n _ hx)
 obtain⟨mt,wu⟩:=zx T.length
 obtain⟨mn,zo⟩:=zx N.length
 obtain⟨ao,hM⟩:=zx ks.length
 have SX:ao=l.length:=by rw [<-hM];exact dL.1
 have Bt:=zh SX
 have bs:ao<=150000:=by omega
 rw [wu,zo] at jm bM jw SQ uu zU ⊢
 have zU:Hid (∀W,al W pn N K->Calls Tryz.prog 37 #[.agg #[.slice pt mt ct,.slice pn mn cn],.int .i64 (n:Int)] W (bp (.slice (K n).1 ao (K n).2) W)):=zh (fun W h=>by rw [<-hM];exact zU W h)
 have xY:=zh wu
 generalize (K n).1=pk at *
 generalize (K n).2=ck at *
 clear ht hn gP hx dL dx eB fG eM iS hT hN wu zo hM SX xS
 go_enter Tryz.func91,Tryz.ntmps91
 go_wp2_with fail
 obtain⟨W,b0,b1,m,hW,e0,e1,e2,cS,dq,ec,dp,lu,oR⟩:=three w (.cells #[.slice pt mt ct,.slice pn mn cn] 82) (.cells #[.string ⟨#[]⟩,.int .i64 0,.slice none 0 0,.int .i64 0,.int .i64 0] 73) (.cells #[.string ⟨#[]⟩,.int .i64 0,.slice none 0 0,.int .i64 0,.int .i64 0] 73)
 have ky:W.heap.size=m+1:=by rw [hW];simp;omega
 have bB:=zh cS;have bS:=zh dq;have bP:=zh ec;have bm:=zh dp;have gj:=zh e0;have ll:=zh e1;have uh:=zh ky
 clear cS dq ec dp
 try rw [<-hW]
 try rw [e2]
 try rw [e1]
 try rw [e0]
 clear e0 e1 e2 hW ky
 refine(zU _ (HN.kept bm)).mono ?_
 rintro E w5 ⟨rfl,dw⟩
 have ef:=zh (aa bm dw)
 have E3:=zh (bx dw bB);have Vd:=zh (bx dw bS);have Q3:=zh (bx dw bP)
 have TI:Hid (m+1<=w5.heap.size):=zh (by have:=uh.out;have:=dw.size;omega)
 clear dw
 go_wp2_with fail
 go_loopw [14] (fun iv wr=>∃(j:Nat) (ay:List Value),j<=ao/\iv=.int .i64 (j:Int)/\Hid (wr.heap[m]? = some (.cells ay.toArray 73 (0,0)))/\Hid (PAt (fun A=>m+1<=A/\A<wr.heap.size) wr (cm T (l.take j)) ay)/\Hid (Fr2 (fun A=>A=m) w5 wr)) (fun iv _=>ao - (intOf iv).toNat)
 case atStart=>exact⟨0,_,zero_le _,rfl,Q3,zh ⟨none,0,[],rfl,GAt.nil,by simp [cm,LsE],fun h=>absurd rfl h⟩,zh (Fr2.refl _ _)⟩
 case round=>
  obtain⟨j,ay,hj,rfl,O,lT,HF⟩:=hrel
  have cW:Hid (w.grownBy wr none):=zh (Fr2.after ef HF (fun i hi=>by have:=gj.out;omega))
  have mv:=zh (HN.kept cW);have rV:=zh (HT.kept cW);have K8:=zh (iF.kept cW)
  have bV:=zh (HF.keep E3 (by omega));have iN:=zh (HF.keep Vd (by omega))
  have Ez:Hid (m+1<=wr.heap.size):=zh (Nat.le_trans TI HF.size)
  obtain⟨a0,a1,a2⟩:=ac bV
  have dZ:b0<wr.heap.size:=hlt bV
  obtain⟨B,hF⟩:=zx (cm T (l.take j))
  have aL:=zh hF
  rw [hF] at lT
  clear hF
  obtain⟨pc,nc,cc,rfl⟩:=lT.form
  by_cases a6:j<ao
  ·obtain⟨u,hu⟩:∃u,l[j]? = some u:=⟨l[j]'(by have:=Bt.out;omega),QS _⟩
   obtain⟨k1,eD,dK,gW⟩:=kA.2 j u hu
   obtain⟨g,au,rfl,bN,jx⟩:=bO (Cz _ mv) eD
   have y1:(0:Int)<=(j:Int):=by omega
   have y2:(j:Int)<(ao:Int):=by omega
   have y3:decide (j<ao)=true:=zd a6
   have y4:decide ((j:Int)<(ao:Int))=true:=zd y2
   have j8:=zh (qk u (gn hu))
   have U:=zh (CG T hu)
   rw [aL.out] at U
   cases u with
   | lf i=>
     obtain⟨n',eC,dO⟩:=dK.lf
     have eC:k1=n':=by omega
     subst eC
     have hi:i<mt:=by rw [<-xY.out];exact lY i (qi hu)
     have jM:=zh (jm k1 _ wr dO mv)
     have LU:=zh (fun W L h2=>jw k1 i W dO hi L h2)
     unfold wJ at LU
     obtain⟨tk,rm⟩:=zx (tkT T i).kind
     obtain⟨Y,tY⟩:=zx (tkT T i).pos
     obtain⟨y9,ax⟩:∃aq:ByteArray,(⟨(tkT T i).lead.toArray⟩:ByteArray)=aq:=⟨_,rfl⟩
     obtain⟨R,Ej⟩:∃aq:ByteArray,(⟨(tkT T i).text.toArray⟩:ByteArray)=aq:=⟨_,rfl⟩
     have aO:=zh Ej
     unfold aD at LU
     rw [rm,tY,ax,Ej] at LU
     have U:Hid (cm T (l.take (j+1))=if tk=1 then { B with nm:=(tkT T i).text,ps:=Y } else B):=zh (by rw [U.out,gT,rm,tY])
     clear hu eD dK gW dO hi rm tY ax Ej j8
     go_wp2_with fail
     refine jM.mono ?_
     rintro E w6 ⟨rfl,J⟩
     have dD:=zh J
     obtain⟨a0,a1,a2⟩:=ac (bx J bV)
     have dZ:b0<w6.heap.size:=zn dZ J.size
     clear J jM
     go_wp2_with fail
     refine(LU _ (rV.kept dD) (mv.kept dD)).mono ?_
     rintro E w7 ⟨rfl,dV⟩
     have I:=zh (aa dD dV)
     obtain⟨f0,f1,f2,f3,f4,f5⟩:=bC (bx I O)
     have cB:m<w7.heap.size:=hlt (bx I O)
     clear dV LU
     by_cases L:tk=1
     ·have q1:((tk:Int) == 1)=true:=by rw [L];rfl
      rw [if_pos L] at U
      clear L
      go_wp2_with fail
      obtain⟨W8,b8,Em,e8,Zm,NE,KE⟩:=Jb w7 (.cells #[.int .i64 (tk:Int),.string y9,.string R,.int .i64 (Y:Int)] 91)
      have eY:=zh (aa I NE)
      have Dw:=zh (bx eY O)
      clear f0 f1 f2 f3 f4 f5
      obtain⟨t0,t1,t2,t3,t4⟩:=cx Zm
      obtain⟨f0,f1,f2,f3,f4,f5⟩:=bC Dw
      have bi:m<b8:=by rw [<-e8];exact cB
      have cB:m<W8.heap.size:=hlt Dw
      have I1:b8<W8.heap.size:=hlt Zm
      try rw [<-Em]
      try rw [e8]
      clear Em e8 Zm NE KE
      go_region
      all_goals
       go_wp2_with fail
       have fe:wr.grownBy W8.drew none:=aC eY
       have Z:Fr2 (fun A=>A=m) W8.drew ((W8.drew.setCell ⟨m,0,none⟩ (.string R)).setCell ⟨m,3,none⟩ (.int .i64 (Y:Int))):=Fr2.setCell (S:=fun A=>A=m) (Fr2.setCell (S:=fun A=>A=m) (Fr2.refl _ _) (g:=m) (j:=0) rfl _) (g:=m) (j:=3) rfl _
       have Nu:=zh (ab (i:=3) (u:=.int .i64 (Y:Int)) (ab (i:=0) (u:=.string R) (bx (aC (ad W8 none)) Dw)))
       have KV:=zh (PAt.mono (F':=fun A=>m+1<=A/\A<((W8.drew.setCell ⟨m,0,none⟩ (.string R)).setCell ⟨m,3,none⟩ (.int .i64 (Y:Int))).heap.size) (fun A G=>⟨G.1,zn G.2 (Nat.le_trans fe.size Z.size)⟩) (PAt.same Z (fun A G E=>by have E:A=m:=E;have:=G.1;omega) (PAt.turn (lT.kept fe) (tkT T i).text B.base Y B.bare)))
       rw [aO.out] at KV
       have LZ:=zh ((HF.trans (Fr2.none fe)).trans Z)
       clear fe Z
       go_roundw
       case rel=>exact⟨j+1,_,by omega,by go_num,Nu,zh (by rw [U.out];exact KV),LZ⟩
       case measure=>simp [intOf];omega
     ·have q1:=yi (tk:Int) 1
      rw [if_neg L] at U
      clear L
      go_wp2_with fail
      go_roundw
      case rel=>exact⟨j+1,_,by omega,by go_num,zh (bx (af I _) O),zh (by rw [U.out];exact PAt.mono (fun A G=>⟨G.1,zn G.2 (af I _).size⟩) (lT.kept (af I _))),zh (HF.trans (Fr2.none (af I _)))⟩
      case measure=>simp [intOf];omega
   | nd k' l'=>
     obtain⟨n',mE,eC,dO,gD⟩:=dK.nd
     have eC:k1=n':=by omega
     subst eC
     have ln:=da sE hu
     simp only [kOk] at ln
     have yw:=ln.2.2
     have mI:∀ap∈cg l',ap<T.length:=fun ap hz=>lY ap (dy hu ap (by simp only [lvT];exact hz))
     have yu:bK l'+1<=150000:=by have h9:=eU hu;have h8:=lj.out;simp only [szR] at h9;omega
     have bu:=yi (k':Int) 19
     have jM:=zh (jm k1 _ wr dO mv)
     by_cases h5:k'=5
     ·obtain⟨ak,rfl⟩:=j8.1 h5
      have q5:((k':Int) == 5)=true:=by rw [h5];rfl
      have IP:=zh (fun W L h2=>SQ k1 k' mE [.lf ak] W dO gD yw (fun ap hz=>by have:=mI ap hz;rw [xY.out] at this;exact this) (by simp) L h2)
      obtain⟨tk,rm⟩:=zx (tkT T ak).kind
      obtain⟨Y,tY⟩:=zx (tkT T ak).pos
      obtain⟨y9,ax⟩:∃aq:ByteArray,(⟨(tkT T ak).lead.toArray⟩:ByteArray)=aq:=⟨_,rfl⟩
      obtain⟨R,Ej⟩:∃aq:ByteArray,(⟨(tkT T ak).text.toArray⟩:ByteArray)=aq:=⟨_,rfl⟩
      have aO:=zh Ej
      have pf:R.data.toList=(tkT T ak).text:=by rw [<-Ej]
      have kw:R.size=(tkT T ak).text.length:=by rw [<-aQ,pf]
      have iS:=Gr ak
      rw [tY,<-kw] at iS
      have bt:IntKind.i64.wrap ((Y:Int)+(R.size:Int))=((Y+R.size:Nat):Int):=by rw [IntWalk.i64_in _ (by omega)];simp
      have xH:=zh (fun W=>X6 R W)
      rw [pf] at xH
      have U:Hid (cm T (l.take (j+1))={ B with base:=oX (tkT T ak).text,bare:=((Y+R.size:Nat):Int) }):=zh (by rw [U.out,gT,if_pos h5,kw,<-tY];rfl)
      obtain⟨bn,Mk⟩:=zx (oX (tkT T ak).text)
      rw [Mk] at xH U
      have uf:Hid (∀(W:World) (av:Option Addr),TAt W av ((ba [Tr.lf ak]).map (tkT T))->∃g au,av=some ⟨g,au,none⟩/\g<W.heap.size/\W.cell? ⟨g,au,none⟩=some (.int .i64 (tk:Int))/\W.cell? ⟨g,au+1,none⟩=some (.string y9)/\W.cell? ⟨g,au+2,none⟩=some (.string R)/\W.cell? ⟨g,au+3,none⟩=some (.int .i64 (Y:Int))):=zh (fun W av h=>by
       obtain⟨g2,C0,cI,CM,c0,c1,c2,c3⟩:=cF h (i:=0) (by simp [ba])
       have e0:tkT ((ba [Tr.lf ak]).map (tkT T)) 0=tkT T ak:=by simp [tkT,ba]
       rw [e0,Nat.zero_mul,Nat.add_zero] at c0 c1 c2 c3
       unfold aD at c1 c2
       rw [rm] at c0;rw [ax] at c1;rw [Ej] at c2;rw [tY] at c3
       exact⟨g2,C0,cI,CM,c0,c1,c2,c3⟩)
      have IP:Hid (∀W,TAt W pt T->al W pn N K->Calls Tryz.prog 55 #[.agg #[.slice pt mt ct,.slice pn mn cn],.int .i64 (k1:Int)] W (fun E w'=>W.grownBy w' none/\∃av a5,E=.returned (.slice av 1 a5)/\TAt w' av ((ba [Tr.lf ak]).map (tkT T)))):=IP
      clear hu eD dK gW dO ln yw mI yu j8 h5 gD rm tY ax Ej pf kw Mk
      go_wp2_with fail
      refine jM.mono ?_
      rintro E w6 ⟨rfl,J⟩
      have dD:=zh J
      obtain⟨a0,a1,a2⟩:=ac (bx J bV)
      have dZ:b0<w6.heap.size:=zn dZ J.size
      clear J jM
      go_wp2_with fail
      refine(IP _ (rV.kept dD) (mv.kept dD)).mono ?_
      rintro E w7 ⟨dV,pr,cr,rfl,ZP⟩
      obtain⟨gr,xT,rfl,AR,r0,r1,r2,r3⟩:=uf _ _ ZP
      have I:=zh (aa dD dV)
      obtain⟨f0,f1,f2,f3,f4,f5⟩:=bC (bx I O)
      have cB:m<w7.heap.size:=hlt (bx I O)
      clear dV IP ZP uf
      go_wp2_with fail
      obtain⟨W8,b9,Em,e8,uJ,NE,KE⟩:=Jb w7 (.cells #[.int .i64 (tk:Int),.string y9,.string R,.int .i64 (Y:Int)] 91)
      have eY:=zh (aa I NE)
      have Dw:=zh (bx eY O);have fW:=zh uJ
      clear f0 f1 f2 f3 f4 f5 r0 r1 r2 r3
      obtain⟨t0,t1,t2,t3,t4⟩:=cx fW
      obtain⟨f0,f1,f2,f3,f4,f5⟩:=bC Dw
      have bd:m<b9:=by rw [<-e8];exact cB
      have bc:m≠b9:=by omega
      have cB:m<W8.heap.size:=hlt Dw
      have iJ:b9<W8.heap.size:=hlt fW
      try rw [<-Em]
      try rw [e8]
      clear Em e8 uJ NE KE
      go_region_held3 (fun w'=>w'.cell? ⟨b9,2,none⟩=some (.string R)/\w'.cell? ⟨b9,3,none⟩=some (.int .i64 (Y:Int)))
       (first | with_reducible exact⟨t2,t3⟩ | go_keep)
       (first | (go_at_call 120;refine(xH _).mono ?_;rintro E w9 ⟨rfl,bH⟩;have fR:=zh (aa (show W8.grownBy _ none from gbx) bH);obtain⟨t0,t1,t2,t3,t4⟩:=cx (bx fR fW);obtain⟨f0,f1,f2,f3,f4,f5⟩:=bC (bx fR Dw);have cB:m<w9.heap.size:=zn cB fR.size;clear bH))
      all_goals
       go_wp2_with fail
       have fe:wr.grownBy w9 none:=aa eY fR
       have Z:Fr2 (fun A=>A=m) w9 ((w9.setCell ⟨m,1,none⟩ (.int .i64 (bn:Int))).setCell ⟨m,4,none⟩ (.int .i64 ((Y+R.size:Nat):Int))):=Fr2.setCell (S:=fun A=>A=m) (Fr2.setCell (S:=fun A=>A=m) (Fr2.refl _ _) (g:=m) (j:=1) rfl _) (g:=m) (j:=4) rfl _
       have Nu:=zh (ab (i:=4) (u:=.int .i64 ((Y+R.size:Nat):Int)) (ab (i:=1) (u:=.int .i64 (bn:Int)) (bx fR Dw)))
       have KV:=zh (PAt.mono (F':=fun A=>m+1<=A/\A<((w9.setCell ⟨m,1,none⟩ (.int .i64 (bn:Int))).setCell ⟨m,4,none⟩ (.int .i64 ((Y+R.size:Nat):Int))).heap.size) (fun A G=>⟨G.1,zn G.2 (Nat.le_trans fe.size Z.size)⟩) (PAt.same Z (fun A G E=>by have E:A=m:=E;have:=G.1;omega) (PAt.turn (lT.kept fe) B.nm bn B.ps ((Y+R.size:Nat):Int))))
       have LZ:=zh ((HF.trans (Fr2.none fe)).trans Z)
       clear fe Z
       go_roundw
       case rel=>exact⟨j+1,_,by omega,by go_num,Nu,zh (by rw [U.out];exact KV),LZ⟩
       case measure=>simp [intOf];omega
     ·by_cases h6:k'=6
      ·obtain⟨i6,e6,j6,rfl,XP,mB⟩:=j8.2 h6
       have q5:=yi (k':Int) 5
       have q6:((k':Int) == 6)=true:=by rw [h6];rfl
       obtain⟨ke,aX,a3,-⟩:=gD.2 1 e6 rfl
       have CB:kQ T N (ke:Int) e6:=⟨XP,mB,da yw (j:=1) (t:=e6) rfl,fun ap hz=>mI ap (dy (j:=1) (t:=e6) rfl ap hz),a3⟩
       have a4:=zh (fun W L h2 h3=>uu e6 (ke:Int) W (by have h9:=eU (l:=[Tr.lf i6,e6,Tr.lf j6]) (j:=1) (t:=e6) rfl;omega) CB L h2 h3)
       have E0:=zh (fun W h=>bM k1 _ W dO h)
       obtain⟨g6,su,Uz,G7,ce⟩:=bO (HN.2 k1 _ dO) aX
       have a9:m≠g6:=by have:=gj.out;omega
       have D8:m≠b0:=by omega
       have ce:=cW.cell ce (by simp)
       have G7:g6<wr.heap.size:=zn G7 cW.size
       simp only at E0
       rw [Uz] at E0
       have KW:mE.length=3:=gD.1
       rw [KW] at E0
       generalize (K k1).2=bq at E0
       have B1:(bQ T [Tr.lf i6,e6,Tr.lf j6]).headD pW=axT T e6:=by rw [bQ,if_neg (by simp [isN]),bQ,if_pos XP];rfl
       have U:Hid (cm T (l.take (j+1))={ B with cl:=[axT T e6],bare:=-1 }):=zh (by rw [U.out,gT,if_neg h5,if_pos h6,B1])
       have yd:=zh ce
       clear hu eD dK gW dO ln yw mI yu j8 h5 h6 gD aX a3 CB Uz KW B1 XP mB
       go_wp2_with fail
       refine jM.mono ?_
       rintro E w6 ⟨rfl,J⟩
       have dD:=zh J
       obtain⟨a0,a1,a2⟩:=ac (bx J bV)
       obtain⟨f0,f1,f2,f3,f4,f5⟩:=bC (bx J O)
       have dZ:b0<w6.heap.size:=zn dZ J.size
       have cB:m<w6.heap.size:=hlt (bx J O)
       have ce:=J.cell ce (by simp)
       have G7:g6<w6.heap.size:=zn G7 J.size
       clear J jM
       go_wp2_with fail
       have Lj:=zh G7
       go_region_held3 (fun w'=>w'.cell? ⟨b0,0,none⟩=some (.slice pt mt ct)/\w'.cell? ⟨b0,1,none⟩=some (.slice pn mn cn)/\w'.cell? ⟨g6,su+1,none⟩=some (.int .i64 (ke:Int)))
        (first | with_reducible exact⟨a0,a1,ce⟩ | go_keep)
        (first
         | (go_at_call 37;refine(E0 _ (mv.kept (aa dD gbx))).mono ?_;rintro E w7 ⟨rfl,dV⟩;have I:=zh (aa dD (aa (show w6.grownBy _ none from gbx) dV));obtain⟨a0,a1,a2⟩:=ac (bx I bV);obtain⟨f0,f1,f2,f3,f4,f5⟩:=bC (bx I O);have ce:=I.cell yd (by simp);have cB:m<w7.heap.size:=hlt (bx I O);have G7:g6<w7.heap.size:=zn Lj (aa (show w6.grownBy _ none from gbx) dV).size;clear dV)
         | (go_at_call 36;refine(a4 _ (rV.kept (aa I gbx)) (mv.kept (aa I gbx)) (K8.kept (aa I gbx))).mono ?_;rintro E H ⟨rt,qe,rfl,hq⟩;obtain⟨q0,q1,q2,q3,q4,KK,J1,q7,rfl⟩:=hq.eight;have HQ:=zh hq;have a7:w7.heap.size<=H.heap.size:=(aa (show w7.grownBy _ none from gbx) rt).size;have eY:=zh (aa I (aa (show w7.grownBy _ none from gbx) rt));have G7:g6<H.heap.size:=zn G7 a7;obtain⟨a0,a1,a2⟩:=ac (bx eY bV);obtain⟨f0,f1,f2,f3,f4,f5⟩:=bC (bx eY O);have ce:=eY.cell yd (by simp);have cB:m<H.heap.size:=hlt (bx eY O);clear rt hq))
       all_goals
        go_wp2_with fail
        have Z:Fr2 (fun A=>A=m) H ((H.setCell ⟨m,2,none⟩ (.slice (some ⟨H.heap.size,0,none⟩) 1 1)).setCell ⟨m,4,none⟩ (.int .i64 (-1))):=Fr2.setCell (S:=fun A=>A=m) (Fr2.setCell (S:=fun A=>A=m) (Fr2.refl _ _) (g:=m) (j:=2) rfl _) (g:=m) (j:=4) rfl _
        have KE:((H.setCell ⟨m,2,none⟩ (.slice (some ⟨H.heap.size,0,none⟩) 1 1)).setCell ⟨m,4,none⟩ (.int .i64 (-1))).heap.size=H.heap.size:=by simp [World.setCell]
        have dz:=qn ((H.setCell ⟨m,2,none⟩ (.slice (some ⟨H.heap.size,0,none⟩) 1 1)).setCell ⟨m,4,none⟩ (.int .i64 (-1))) (.cells #[q0,q1,q2,q3,q4,KK,J1,q7] 60) none
        have hA:=YK ((H.setCell ⟨m,2,none⟩ (.slice (some ⟨H.heap.size,0,none⟩) 1 1)).setCell ⟨m,4,none⟩ (.int .i64 (-1))) (.cells #[q0,q1,q2,q3,q4,KK,J1,q7] 60)
        rw [KE] at hA
        have EL:(((H.setCell ⟨m,2,none⟩ (.slice (some ⟨H.heap.size,0,none⟩) 1 1)).setCell ⟨m,4,none⟩ (.int .i64 (-1))).alloc (.cells #[q0,q1,q2,q3,q4,KK,J1,q7] 60)).heap.size=H.heap.size+1:=by rw [<-KE];simp
        have Nu:=zh (bx dz (ab (i:=4) (u:=.int .i64 (-1)) (ab (i:=2) (u:=.slice (some ⟨H.heap.size,0,none⟩) 1 1) (bx eY O))))
        have a8:m<w7.heap.size:=by have L:=Ez.out;have h2:=I.size;omega
        have JA:=(EAt.same Z (fun A G E=>by have E:A=m:=E;have L:w7.heap.size<=A:=G.1;omega) HQ.bound).kept dz
        have KV:Hid (PAt (fun A=>m+1<=A/\A<(((H.setCell ⟨m,2,none⟩ (.slice (some ⟨H.heap.size,0,none⟩) 1 1)).setCell ⟨m,4,none⟩ (.int .i64 (-1))).alloc (.cells #[q0,q1,q2,q3,q4,KK,J1,q7] 60)).heap.size) (((H.setCell ⟨m,2,none⟩ (.slice (some ⟨H.heap.size,0,none⟩) 1 1)).setCell ⟨m,4,none⟩ (.int .i64 (-1))).alloc (.cells #[q0,q1,q2,q3,q4,KK,J1,q7] 60)) { B with cl:=[axT T e6],bare:=-1 } [.string ⟨B.nm.toArray⟩,.int .i64 (B.base:Int),.slice (some ⟨H.heap.size,0,none⟩) 1 1,.int .i64 (B.ps:Int),.int .i64 (-1)]):=zh ⟨_,1,[[q0,q1,q2,q3,q4,KK,J1,q7]],rfl,Gw hA,by
         simp only [LsE]
         exact⟨_,[],rfl,EAt.mono (fun A G=>by have L:w7.heap.size<=A:=G.1;have h2:=G.2;rw [EL];omega) JA,rfl⟩,fun _=>⟨_,rfl,by rw [EL];have h2:=hlt (bx eY O);simp only;omega⟩⟩
        have LZ:=zh (((HF.trans (Fr2.none eY)).trans Z).trans (Fr2.none dz))
        clear Z KE dz hA EL JA
        go_roundw
        case rel=>exact⟨j+1,_,by omega,by go_num,Nu,zh (by rw [U.out];exact KV),LZ⟩
        case measure=>simp [intOf];omega
      ·have q5:=yi (k':Int) 5
       have q6:=yi (k':Int) 6
       have U:Hid (cm T (l.take (j+1))=B):=zh (by rw [U.out,gT,if_neg h5,if_neg h6])
       clear hu eD dK gW dO ln yw mI yu j8 h5 h6 gD
       go_wp2_with fail
       refine jM.mono ?_
       rintro E w6 ⟨rfl,J⟩
       have dD:=zh J
       clear J jM
       go_wp2_with fail
       go_roundw
       case rel=>exact⟨j+1,_,by omega,by go_num,zh (bx dD O),zh (by rw [U.out];exact PAt.mono (fun A G=>⟨G.1,zn G.2 dD.size⟩) (lT.kept dD)),zh (HF.trans (Fr2.none dD))⟩
       case measure=>simp [intOf];omega
  ·obtain rfl:j=ao:=by omega
   have TY:cm T l=B:=by rw [<-aL.out,V7 (by have:=Bt.out;omega)]
   have B6:=zh TY
   obtain⟨f0,f1,f2,f3,f4,f5⟩:=bC O
   obtain⟨g0,g1,g2,g3,g4,g5⟩:=bC iN
   have eg:b1<wr.heap.size:=hlt iN
   have cB:m<wr.heap.size:=hlt O
   clear TY
   go_wp2_with fail
   obtain⟨hp,Z⟩:=Gz iN (.string ⟨B.nm.toArray⟩) (.int .i64 (B.base:Int)) (.slice pc nc cc) (.int .i64 (B.ps:Int)) (.int .i64 B.bare)
   obtain⟨r0,r1,r2,r3,r4,-⟩:=bC hp
   have HP:Hid (GT B w (.returned (.agg #[.string ⟨B.nm.toArray⟩,.int .i64 (B.base:Int),.slice pc nc cc,.int .i64 (B.ps:Int),.int .i64 B.bare])) _):=zh ⟨Fr2.after cW Z (fun A E=>by have E:A=b1:=E;have:=gj.out;have:=ll.out;omega),_,rfl,PAt.mono (fun A G=>by have:=gj.out;have:=G.1;omega) (PAt.same Z (fun A G E=>by have E:A=b1:=E;have:=G.1;omega) lT)⟩
   refine bodyPost_ret (v:=.agg #[.string ⟨B.nm.toArray⟩,.int .i64 (B.base:Int),.slice pc nc cc,.int .i64 (B.ps:Int),.int .i64 B.bare]) (by simp [results,Tryz.results91,go_sem,r0,r1,r2,r3,r4]) rfl (by rw [B6.out];exact HP)
open Go.RowKit List Go.World
def eZ (F:Nat->Prop) (w:World):List Fx->List (List Value)->Prop
 | [],r=>r = []
 | x::l,r=>∃m A,r=m::A/\PAt F w x m/\eZ F w l A
theorem pB {F:Nat->Prop} {w:World}:∀ {l:List Fx} {r:List (List Value)},eZ F w l r->r.length=l.length
 | [],r,h=>by simp only [eZ] at h;rw [h];rfl
 | x::l,r,h=>by
   simp only [eZ] at h
   obtain⟨A,B,rfl,-,m⟩:=h
   rw [hJ,pB m];rfl
theorem H7 {F:Nat->Prop} {w:World} {x:Fx} {q:List Value} (m:PAt F w x q):∀ {l:List Fx} {r:List (List Value)},eZ F w l r->eZ F w (l++[x]) (r++[q])
 | [],r,h=>by simp only [eZ] at h;subst h;simp only [nil_append,eZ];exact⟨q,[],rfl,m,rfl⟩
 | y::l,r,h=>by
   simp only [eZ] at h
   obtain⟨E,G,rfl,A,B⟩:=h
   simp only [cons_append,eZ]
   exact⟨E,_,rfl,A,H7 m B⟩
theorem od {F S:Nat->Prop} {w B:World} (A:Fr2 S w B) (m:∀k,F k->¬S k):∀ {l:List Fx} {r:List (List Value)},eZ F w l r->eZ F B l r
 | [],r,h=>by simp only [eZ] at h ⊢;exact h
 | x::l,r,h=>by
   simp only [eZ] at h ⊢
   obtain⟨I,J,E,G,H⟩:=h
   exact⟨I,J,E,PAt.same A m G,od A m H⟩
theorem qI {F F':Nat->Prop} {w:World} (m:∀k,F k->F' k):∀ {l:List Fx} {r:List (List Value)},eZ F w l r->eZ F' w l r
 | [],r,h=>by simp only [eZ] at h ⊢;exact h
 | x::l,r,h=>by
   simp only [eZ] at h ⊢
   obtain⟨G,H,A,B,E⟩:=h
   exact⟨G,H,A,PAt.mono m B,qI m E⟩
theorem Ge {F:Nat->Prop} {w m:World} {l:List Fx} {r:List (List Value)} (h:eZ F w l r) (A:w.grownBy m none):eZ F m l r:=od (S:=fun _=>False) (Fr2.none A) (fun _ _ h=>h) h
theorem PAt.five {F:Nat->Prop} {w:World} {f:Fx} {q:List Value} (h:PAt F w f q):q.length=5/\(∀u∈q,u.oneCell'=true)/\∃A B E G H,q = [A,B,E,G,H]:=by
 obtain⟨L,J,I,rfl⟩:=h.form
 exact⟨rfl,fun u m=>by simp at m;rcases m with rfl | rfl | rfl | rfl | rfl<;>rfl,_,_,_,_,_,rfl⟩
def DAt (F:Nat->Prop) (w:World) (d:Dx) (q:List Value):Prop:=∃m H L E I G B J,q = [.bool d.pub,aD d.res.nm,.slice m H L,.int .i64 (d.res.base:Int),.slice I G B]++J++[.int .i64 (d.res.ps:Int),.int .i64 d.res.bare]/\
 PAt F w d.res [aD d.res.nm,.int .i64 (d.res.base:Int),.slice I G B,.int .i64 (d.res.ps:Int),.int .i64 d.res.bare]/\EAt F w d.body J/\H=d.ps.length/\GAt 5 w m E/\eZ F w d.ps E/\(d.ps≠[]->∃A,m=some A/\F A.block)
def Bz (x:Dx) (w:World) (e:Ending) (A:World):Prop:=w.grownBy A none/\∃m,e=.returned (.agg m.toArray)/\DAt (fun B=>w.heap.size<=B) A x m
theorem Ht:(Tryz.prog.info? 73).map (fun m=>(m.zero,m.size,m.bytes))=some (some (.agg #[.string ⟨#[]⟩,.int .i64 0,.slice none 0 0,.int .i64 0,.int .i64 0]),5,64):=by kernel_rfl
theorem Kr (a d:Int) (b c:ByteArray) (w:World):(Instr.field 91 (.agg #[.int .i64 a,.string b,.string c,.int .i64 d]) 2).run Tryz.prog w=.ok (.string c) w:=by kernel_rfl
theorem qu (T:List Tok) {l:List Tr} {j:Nat} {t:Tr} (h:l[j]? = some t):bA T (l.take (j+1))=bA T (l.take j)++(if aU t=4 then [cm T (eI t)] else []):=by
 unfold bA
 rw [gR h,filter_append,map_append]
 congr 1
 by_cases m:aU t=4
 ·simp [m]
 ·simp [m]
theorem tP (T:List Tok) (l:List Tr):(bA T l).length<=l.length:=by
 unfold bA
 rw [length_map];exact length_filter_le _ _
theorem Um {E:World} {B A j:Nat} {v a b c d e:Value} (h:E.cell? ⟨A,j,none⟩=some v) (m:A≠B):(((((E.setCell ⟨B,0,none⟩ a).setCell ⟨B,1,none⟩ b).setCell ⟨B,2,none⟩ c).setCell ⟨B,3,none⟩ d).setCell ⟨B,4,none⟩ e).cell? ⟨A,j,none⟩=some v:=by
 rw [vr _ _ _ _ (fun e=>m e.symm),vr _ _ _ _ (fun e=>m e.symm),vr _ _ _ _ (fun e=>m e.symm),vr _ _ _ _ (fun e=>m e.symm),vr _ _ _ _ (fun e=>m e.symm)]
 exact h
theorem EG {W:World} {B:Nat} {T:TypeId} {x0 x1 x2 x3 x4 x5 x6 x7 x8 x9 gE gw fS Z Y:Value} (h0:W.heap[B]? = some (.cells #[x0,x1,x2,x3,x4,x5,x6,x7,x8,x9,gE,gw,fS,Z,Y] T (0,0))) (m A E G H I J L O R U ak ao ap aq:Value):(((((((((((((((W.setCell ⟨B,0,none⟩ m).setCell ⟨B,1,none⟩ A).setCell ⟨B,2,none⟩ E).setCell ⟨B,3,none⟩ G).setCell ⟨B,4,none⟩ H).setCell ⟨B,5,none⟩ I).setCell ⟨B,6,none⟩ J).setCell ⟨B,7,none⟩ L).setCell ⟨B,8,none⟩ O).setCell ⟨B,9,none⟩ R).setCell ⟨B,10,none⟩ U).setCell ⟨B,11,none⟩ ak).setCell ⟨B,12,none⟩ ao).setCell ⟨B,13,none⟩ ap).setCell ⟨B,14,none⟩ aq).heap[B]? = some (.cells #[m,A,E,G,H,I,J,L,O,R,U,ak,ao,ap,aq] T (0,0))/\Fr2 (dm B) W (((((((((((((((W.setCell ⟨B,0,none⟩ m).setCell ⟨B,1,none⟩ A).setCell ⟨B,2,none⟩ E).setCell ⟨B,3,none⟩ G).setCell ⟨B,4,none⟩ H).setCell ⟨B,5,none⟩ I).setCell ⟨B,6,none⟩ J).setCell ⟨B,7,none⟩ L).setCell ⟨B,8,none⟩ O).setCell ⟨B,9,none⟩ R).setCell ⟨B,10,none⟩ U).setCell ⟨B,11,none⟩ ak).setCell ⟨B,12,none⟩ ao).setCell ⟨B,13,none⟩ ap).setCell ⟨B,14,none⟩ aq):=by
 have h1:(W.setCell ⟨B,0,none⟩ m).heap[B]? = some (.cells #[m,x1,x2,x3,x4,x5,x6,x7,x8,x9,gE,gw,fS,Z,Y] T (0,0)):=ab (i:=0) (u:=m) h0
 have h2:((W.setCell ⟨B,0,none⟩ m).setCell ⟨B,1,none⟩ A).heap[B]? = some (.cells #[m,A,x2,x3,x4,x5,x6,x7,x8,x9,gE,gw,fS,Z,Y] T (0,0)):=ab (i:=1) (u:=A) h1
 have h3:(((W.setCell ⟨B,0,none⟩ m).setCell ⟨B,1,none⟩ A).setCell ⟨B,2,none⟩ E).heap[B]? = some (.cells #[m,A,E,x3,x4,x5,x6,x7,x8,x9,gE,gw,fS,Z,Y] T (0,0)):=ab (i:=2) (u:=E) h2
 have h4:((((W.setCell ⟨B,0,none⟩ m).setCell ⟨B,1,none⟩ A).setCell ⟨B,2,none⟩ E).setCell ⟨B,3,none⟩ G).heap[B]? = some (.cells #[m,A,E,G,x4,x5,x6,x7,x8,x9,gE,gw,fS,Z,Y] T (0,0)):=ab (i:=3) (u:=G) h3
 have h5:(((((W.setCell ⟨B,0,none⟩ m).setCell ⟨B,1,none⟩ A).setCell ⟨B,2,none⟩ E).setCell ⟨B,3,none⟩ G).setCell ⟨B,4,none⟩ H).heap[B]? = some (.cells #[m,A,E,G,H,x5,x6,x7,x8,x9,gE,gw,fS,Z,Y] T (0,0)):=ab (i:=4) (u:=H) h4
 have h6:((((((W.setCell ⟨B,0,none⟩ m).setCell ⟨B,1,none⟩ A).setCell ⟨B,2,none⟩ E).setCell ⟨B,3,none⟩ G).setCell ⟨B,4,none⟩ H).setCell ⟨B,5,none⟩ I).heap[B]? = some (.cells #[m,A,E,G,H,I,x6,x7,x8,x9,gE,gw,fS,Z,Y] T (0,0)):=ab (i:=5) (u:=I) h5
 have h7:(((((((W.setCell ⟨B,0,none⟩ m).setCell ⟨B,1,none⟩ A).setCell ⟨B,2,none⟩ E).setCell ⟨B,3,none⟩ G).setCell ⟨B,4,none⟩ H).setCell ⟨B,5,none⟩ I).setCell ⟨B,6,none⟩ J).heap[B]? = some (.cells #[m,A,E,G,H,I,J,x7,x8,x9,gE,gw,fS,Z,Y] T (0,0)):=ab (i:=6) (u:=J) h6
 have h8:((((((((W.setCell ⟨B,0,none⟩ m).setCell ⟨B,1,none⟩ A).setCell ⟨B,2,none⟩ E).setCell ⟨B,3,none⟩ G).setCell ⟨B,4,none⟩ H).setCell ⟨B,5,none⟩ I).setCell ⟨B,6,none⟩ J).setCell ⟨B,7,none⟩ L).heap[B]? = some (.cells #[m,A,E,G,H,I,J,L,x8,x9,gE,gw,fS,Z,Y] T (0,0)):=ab (i:=7) (u:=L) h7
 have h9:(((((((((W.setCell ⟨B,0,none⟩ m).setCell ⟨B,1,none⟩ A).setCell ⟨B,2,none⟩ E).setCell ⟨B,3,none⟩ G).setCell ⟨B,4,none⟩ H).setCell ⟨B,5,none⟩ I).setCell ⟨B,6,none⟩ J).setCell ⟨B,7,none⟩ L).setCell ⟨B,8,none⟩ O).heap[B]? = some (.cells #[m,A,E,G,H,I,J,L,O,x9,gE,gw,fS,Z,Y] T (0,0)):=ab (i:=8) (u:=O) h8
 have au:((((((((((W.setCell ⟨B,0,none⟩ m).setCell ⟨B,1,none⟩ A).setCell ⟨B,2,none⟩ E).setCell ⟨B,3,none⟩ G).setCell ⟨B,4,none⟩ H).setCell ⟨B,5,none⟩ I).setCell ⟨B,6,none⟩ J).setCell ⟨B,7,none⟩ L).setCell ⟨B,8,none⟩ O).setCell ⟨B,9,none⟩ R).heap[B]? = some (.cells #[m,A,E,G,H,I,J,L,O,R,gE,gw,fS,Z,Y] T (0,0)):=ab (i:=9) (u:=R) h9
 have RI:(((((((((((W.setCell ⟨B,0,none⟩ m).setCell ⟨B,1,none⟩ A).setCell ⟨B,2,none⟩ E).setCell ⟨B,3,none⟩ G).setCell ⟨B,4,none⟩ H).setCell ⟨B,5,none⟩ I).setCell ⟨B,6,none⟩ J).setCell ⟨B,7,none⟩ L).setCell ⟨B,8,none⟩ O).setCell ⟨B,9,none⟩ R).setCell ⟨B,10,none⟩ U).heap[B]? = some (.cells #[m,A,E,G,H,I,J,L,O,R,U,gw,fS,Z,Y] T (0,0)):=ab (i:=10) (u:=U) au
 have oR:((((((((((((W.setCell ⟨B,0,none⟩ m).setCell ⟨B,1,none⟩ A).setCell ⟨B,2,none⟩ E).setCell ⟨B,3,none⟩ G).setCell ⟨B,4,none⟩ H).setCell ⟨B,5,none⟩ I).setCell ⟨B,6,none⟩ J).setCell ⟨B,7,none⟩ L).setCell ⟨B,8,none⟩ O).setCell ⟨B,9,none⟩ R).setCell ⟨B,10,none⟩ U).setCell ⟨B,11,none⟩ ak).heap[B]? = some (.cells #[m,A,E,G,H,I,J,L,O,R,U,ak,fS,Z,Y] T (0,0)):=ab (i:=11) (u:=ak) RI
 have av:(((((((((((((W.setCell ⟨B,0,none⟩ m).setCell ⟨B,1,none⟩ A).setCell ⟨B,2,none⟩ E).setCell ⟨B,3,none⟩ G).setCell ⟨B,4,none⟩ H).setCell ⟨B,5,none⟩ I).setCell ⟨B,6,none⟩ J).setCell ⟨B,7,none⟩ L).setCell ⟨B,8,none⟩ O).setCell ⟨B,9,none⟩ R).setCell ⟨B,10,none⟩ U).setCell ⟨B,11,none⟩ ak).setCell ⟨B,12,none⟩ ao).heap[B]? = some (.cells #[m,A,E,G,H,I,J,L,O,R,U,ak,ao,Z,Y] T (0,0)):=ab (i:=12) (u:=ao) oR
 have ax:((((((((((((((W.setCell ⟨B,0,none⟩ m).setCell ⟨B,1,none⟩ A).setCell ⟨B,2,none⟩ E).setCell ⟨B,3,none⟩ G).setCell ⟨B,4,none⟩ H).setCell ⟨B,5,none⟩ I).setCell ⟨B,6,none⟩ J).setCell ⟨B,7,none⟩ L).setCell ⟨B,8,none⟩ O).setCell ⟨B,9,none⟩ R).setCell ⟨B,10,none⟩ U).setCell ⟨B,11,none⟩ ak).setCell ⟨B,12,none⟩ ao).setCell ⟨B,13,none⟩ ap).heap[B]? = some (.cells #[m,A,E,G,H,I,J,L,O,R,U,ak,ao,ap,Y] T (0,0)):=ab (i:=13) (u:=ap) av
 have ay:(((((((((((((((W.setCell ⟨B,0,none⟩ m).setCell ⟨B,1,none⟩ A).setCell ⟨B,2,none⟩ E).setCell ⟨B,3,none⟩ G).setCell ⟨B,4,none⟩ H).setCell ⟨B,5,none⟩ I).setCell ⟨B,6,none⟩ J).setCell ⟨B,7,none⟩ L).setCell ⟨B,8,none⟩ O).setCell ⟨B,9,none⟩ R).setCell ⟨B,10,none⟩ U).setCell ⟨B,11,none⟩ ak).setCell ⟨B,12,none⟩ ao).setCell ⟨B,13,none⟩ ap).setCell ⟨B,14,none⟩ aq).heap[B]? = some (.cells #[m,A,E,G,H,I,J,L,O,R,U,ak,ao,ap,aq] T (0,0)):=ab (i:=14) (u:=aq) ax
 exact⟨ay,(Fr2.setCell (Fr2.setCell (Fr2.setCell (Fr2.setCell (Fr2.setCell (Fr2.setCell (Fr2.setCell (Fr2.setCell (Fr2.setCell (Fr2.setCell (Fr2.setCell (Fr2.setCell (Fr2.setCell (Fr2.setCell (Fr2.setCell (Fr2.refl (dm B) W) (g:=B) (j:=0) (aK B) m) (g:=B) (j:=1) (aK B) A) (g:=B) (j:=2) (aK B) E) (g:=B) (j:=3) (aK B) G) (g:=B) (j:=4) (aK B) H) (g:=B) (j:=5) (aK B) I) (g:=B) (j:=6) (aK B) J) (g:=B) (j:=7) (aK B) L) (g:=B) (j:=8) (aK B) O) (g:=B) (j:=9) (aK B) R) (g:=B) (j:=10) (aK B) U) (g:=B) (j:=11) (aK B) ak) (g:=B) (j:=12) (aK B) ao) (g:=B) (j:=13) (aK B) ap) (g:=B) (j:=14) (aK B) aq)⟩
theorem br {w:World} {r:Nat} {A B L O R U Y Z a8 a9 E G H I J:Value} {T:TypeId} (m:w.heap[r]? = some (.cells #[A,B,L,O,R,U,Y,Z,a8,a9,E,G,H,I,J] T (0,0))):w.cell? ⟨r,0,none⟩=some A/\w.cell? ⟨r,1,none⟩=some B/\w.cell? ⟨r,2,none⟩=some L/\w.cell? ⟨r,3,none⟩=some O/\w.cell? ⟨r,4,none⟩=some R/\w.cell? ⟨r,5,none⟩=some U/\w.cell? ⟨r,6,none⟩=some Y/\w.cell? ⟨r,7,none⟩=some Z/\w.cell? ⟨r,8,none⟩=some a8/\w.cell? ⟨r,9,none⟩=some a9/\w.cell? ⟨r,10,none⟩=some E/\w.cell? ⟨r,11,none⟩=some G/\w.cell? ⟨r,12,none⟩=some H/\w.cell? ⟨r,13,none⟩=some I/\w.cell? ⟨r,14,none⟩=some J/\∀o,w.frozen? ⟨r,o,none⟩=false:=
 ⟨by rw [hZ w r 0 _ T (0,0) m];rfl,by rw [hZ w r 1 _ T (0,0) m];rfl,by rw [hZ w r 2 _ T (0,0) m];rfl,by rw [hZ w r 3 _ T (0,0) m];rfl,by rw [hZ w r 4 _ T (0,0) m];rfl,by rw [hZ w r 5 _ T (0,0) m];rfl,by rw [hZ w r 6 _ T (0,0) m];rfl,by rw [hZ w r 7 _ T (0,0) m];rfl,by rw [hZ w r 8 _ T (0,0) m];rfl,by rw [hZ w r 9 _ T (0,0) m];rfl,by rw [hZ w r 10 _ T (0,0) m];rfl,by rw [hZ w r 11 _ T (0,0) m];rfl,by rw [hZ w r 12 _ T (0,0) m];rfl,by rw [hZ w r 13 _ T (0,0) m];rfl,by rw [hZ w r 14 _ T (0,0) m];rfl,fun o=>by simp [World.frozen?,m]⟩
theorem Nn {wr w7 wa U R:World} {B G base I H L n9 ak j2:Nat} {J:Option Addr} {Y:List (List Value)} {q:List Value} {ks:List Fx} {x:Fx} {u:Value} (hw:B<=wr.heap.size) (hO:ag 5 73 wr base (.slice J I H) Y) (cB:G<base) (JQ:G<wr.heap.size)
  (kZ:eZ (fun m=>B<=m/\m<wr.heap.size/\m≠G/\(Value.slice J I H).ownBlock≠some m) wr ks Y) (dV:wr.grownBy w7 none) (hq:PAt (fun m=>wr.heap.size<=m) w7 x q) (dz:w7.grownBy wa none) (ao:wa.heap.size=w7.heap.size+1)
  (Z:wa.grownBy U (Value.slice J I H).ownBlock) (el:(Value.slice J I H).ownBlock=some L\/L=w7.heap.size+1) (hf:(U.setCell ⟨G,j2,none⟩ u).grownBy R none):
  eZ (fun m=>B<=m/\m<R.heap.size/\m≠G/\(Value.slice (some ⟨L,0,none⟩) n9 ak).ownBlock≠some m) R (ks++[x]) (Y++[q]):=by
 have qU:=ag.at hO
 have s7:=dV.size
 have s9:=Z.size
 have sf:=hf.size
 have sc:(U.setCell ⟨G,j2,none⟩ u).heap.size=U.heap.size:=by simp [World.setCell]
 have fr:Fr2 (fun m=>(Value.slice J I H).ownBlock=some m\/m=G) w7 R:=
  ((Fr2.none dz).trans ((Fr2.of Z (fun m A=>.inl A)).trans ((Fr2.setCell (Fr2.refl _ _) (.inr rfl) u).trans (Fr2.none hf))))
 have bc:∀m,m<w7.heap.size->(Value.slice J I H).ownBlock≠some m->(Value.slice (some ⟨L,0,none⟩) n9 ak).ownBlock≠some m:=fun m E O A=>by
  have A:L=m:=Option.some.inj (show some L=some m from A)
  rcases el with h | h
  ·exact O (by rw [h,A])
  ·omega
 have sH:∀m,wr.heap.size<=m->(Value.slice J I H).ownBlock≠some m:=fun m E A=>by have:=qU _ A;omega
 refine H7 ?_ ?_
 ·have O:=PAt.same fr (fun m (E:wr.heap.size<=m/\m<w7.heap.size)=>fun A=>by
   rcases A with A | A
   ·exact sH m E.1 A
   ·omega) hq.bound
  exact PAt.mono (fun m E=>⟨by omega,by omega,by omega,bc m E.2 (sH m E.1)⟩) O
 ·have O:=od fr (fun m (E:B<=m/\m<wr.heap.size/\m≠G/\(Value.slice J I H).ownBlock≠some m)=>fun A=>by
   rcases A with A | A
   ·exact E.2.2.2 A
   ·exact E.2.2.1 A) (Ge kZ dV)
  exact qI (fun m E=>⟨E.1,by omega,E.2.2.1,bc m (by omega) E.2.2.2⟩) O
theorem FE {E:World} {B A j:Nat} {v a b c d e f g h:Value} (G:E.cell? ⟨A,j,none⟩=some v) (m:B≠A):((((((((E.setCell ⟨B,5,none⟩ a).setCell ⟨B,6,none⟩ b).setCell ⟨B,7,none⟩ c).setCell ⟨B,8,none⟩ d).setCell ⟨B,9,none⟩ e).setCell ⟨B,10,none⟩ f).setCell ⟨B,11,none⟩ g).setCell ⟨B,12,none⟩ h).cell? ⟨A,j,none⟩=some v:=by
 rw [vr _ _ _ _ m,vr _ _ _ _ m,vr _ _ _ _ m,vr _ _ _ _ m,vr _ _ _ _ m,vr _ _ _ _ m,vr _ _ _ _ m,vr _ _ _ _ m]
 exact G
theorem TK {W:World} {B:Nat} {T:TypeId} {E G H I J x5 x6 Z Y U R O L m A:Value} (h0:W.heap[B]? = some (.cells #[E,G,H,I,J,x5,x6,Z,Y,U,R,O,L,m,A] T (0,0))) (a b c d e f g h:Value):((((((((W.setCell ⟨B,5,none⟩ a).setCell ⟨B,6,none⟩ b).setCell ⟨B,7,none⟩ c).setCell ⟨B,8,none⟩ d).setCell ⟨B,9,none⟩ e).setCell ⟨B,10,none⟩ f).setCell ⟨B,11,none⟩ g).setCell ⟨B,12,none⟩ h).heap[B]? = some (.cells #[E,G,H,I,J,a,b,c,d,e,f,g,h,m,A] T (0,0))/\Fr2 (dm B) W ((((((((W.setCell ⟨B,5,none⟩ a).setCell ⟨B,6,none⟩ b).setCell ⟨B,7,none⟩ c).setCell ⟨B,8,none⟩ d).setCell ⟨B,9,none⟩ e).setCell ⟨B,10,none⟩ f).setCell ⟨B,11,none⟩ g).setCell ⟨B,12,none⟩ h):=by
 have h1:(W.setCell ⟨B,5,none⟩ a).heap[B]? = some (.cells #[E,G,H,I,J,a,x6,Z,Y,U,R,O,L,m,A] T (0,0)):=ab (i:=5) (u:=a) h0
 have h2:((W.setCell ⟨B,5,none⟩ a).setCell ⟨B,6,none⟩ b).heap[B]? = some (.cells #[E,G,H,I,J,a,b,Z,Y,U,R,O,L,m,A] T (0,0)):=ab (i:=6) (u:=b) h1
 have h3:(((W.setCell ⟨B,5,none⟩ a).setCell ⟨B,6,none⟩ b).setCell ⟨B,7,none⟩ c).heap[B]? = some (.cells #[E,G,H,I,J,a,b,c,Y,U,R,O,L,m,A] T (0,0)):=ab (i:=7) (u:=c) h2
 have h4:((((W.setCell ⟨B,5,none⟩ a).setCell ⟨B,6,none⟩ b).setCell ⟨B,7,none⟩ c).setCell ⟨B,8,none⟩ d).heap[B]? = some (.cells #[E,G,H,I,J,a,b,c,d,U,R,O,L,m,A] T (0,0)):=ab (i:=8) (u:=d) h3
 have h5:(((((W.setCell ⟨B,5,none⟩ a).setCell ⟨B,6,none⟩ b).setCell ⟨B,7,none⟩ c).setCell ⟨B,8,none⟩ d).setCell ⟨B,9,none⟩ e).heap[B]? = some (.cells #[E,G,H,I,J,a,b,c,d,e,R,O,L,m,A] T (0,0)):=ab (i:=9) (u:=e) h4
 have h6:((((((W.setCell ⟨B,5,none⟩ a).setCell ⟨B,6,none⟩ b).setCell ⟨B,7,none⟩ c).setCell ⟨B,8,none⟩ d).setCell ⟨B,9,none⟩ e).setCell ⟨B,10,none⟩ f).heap[B]? = some (.cells #[E,G,H,I,J,a,b,c,d,e,f,O,L,m,A] T (0,0)):=ab (i:=10) (u:=f) h5
 have h7:(((((((W.setCell ⟨B,5,none⟩ a).setCell ⟨B,6,none⟩ b).setCell ⟨B,7,none⟩ c).setCell ⟨B,8,none⟩ d).setCell ⟨B,9,none⟩ e).setCell ⟨B,10,none⟩ f).setCell ⟨B,11,none⟩ g).heap[B]? = some (.cells #[E,G,H,I,J,a,b,c,d,e,f,g,L,m,A] T (0,0)):=ab (i:=11) (u:=g) h6
 have h8:((((((((W.setCell ⟨B,5,none⟩ a).setCell ⟨B,6,none⟩ b).setCell ⟨B,7,none⟩ c).setCell ⟨B,8,none⟩ d).setCell ⟨B,9,none⟩ e).setCell ⟨B,10,none⟩ f).setCell ⟨B,11,none⟩ g).setCell ⟨B,12,none⟩ h).heap[B]? = some (.cells #[E,G,H,I,J,a,b,c,d,e,f,g,h,m,A] T (0,0)):=ab (i:=12) (u:=h) h7
 exact⟨h8,(Fr2.setCell (Fr2.setCell (Fr2.setCell (Fr2.setCell (Fr2.setCell (Fr2.setCell (Fr2.setCell (Fr2.setCell (Fr2.refl (dm B) W) (g:=B) (j:=5) (aK B) a) (g:=B) (j:=6) (aK B) b) (g:=B) (j:=7) (aK B) c) (g:=B) (j:=8) (aK B) d) (g:=B) (j:=9) (aK B) e) (g:=B) (j:=10) (aK B) f) (g:=B) (j:=11) (aK B) g) (g:=B) (j:=12) (aK B) h)⟩
theorem wP {w:World} {b:Nat} {cs:List Value} {T:TypeId} (h:w.heap[b]? = some (.cells cs.toArray T (0,0))):w.rangeAt b 0 cs:=fun A B m=>by
 rw [Nat.zero_add,hZ w b A _ T (0,0) h,Q7];exact m
theorem GO:(Tryz.prog.info? 62).map (·.size)=some 15:=by kernel_rfl
def FH (W:World) (B:Nat) (x:Fx) (H:Value) (A:World):Prop:=∃m G,H=.pointer (some ⟨m,0,none⟩)/\A.heap[m]? = some (.cells G.toArray 73 (0,0))/\PAt (fun E=>B<=E/\E<A.heap.size/\E≠m) A x G/\B<=m/\W.grownBy A none
theorem RV {W G m:World} {B:Nat} {x:Fx} {a b c d e:Value} (h:W.grownBy m none) (J:B<=G.heap.size) (H:B<=m.heap.size) (I:PAt (fun E=>G.heap.size<=E) m x [a,b,c,d,e]):FH W B x (.pointer (some ⟨m.heap.size,0,none⟩)) (m.alloc (.cells #[a,b,c,d,e] 73)):=
 ⟨m.heap.size,_,rfl,YK m _,PAt.mono (fun E A=>⟨by have:=A.1;omega,by have:=A.2;simp;omega,by have:=A.2;omega⟩) (PAt.kept I.bound (qn _ _ none)),H,af h _⟩
theorem Ih {W H E:World} {B b0:Nat} {x:Fx} {a b c d e:Value} {Y Z x2 x3 x4:Value} (h:W.grownBy E none) (hb:W.heap.size<=b0) (I:B<=b0) (dZ:b0<H.heap.size) (J:E.heap[b0]? = some (.cells #[Y,Z,x2,x3,x4] 73 (0,0))) (R:PAt (fun A=>H.heap.size<=A) E x [a,b,c,d,e]):
  FH W B x (.pointer (some ⟨b0,0,none⟩)) (((((E.setCell ⟨b0,0,none⟩ a).setCell ⟨b0,1,none⟩ b).setCell ⟨b0,2,none⟩ c).setCell ⟨b0,3,none⟩ d).setCell ⟨b0,4,none⟩ e):=by
 obtain⟨O,G⟩:=Gz J a b c d e
 refine⟨b0,_,rfl,O,?_,I,Fr2.after h G (fun U L=>by have e:U=b0:=L;omega)⟩
 exact PAt.mono (fun A m=>⟨by have:=m.1;omega,zn m.2 G.size,by have:=m.1;omega⟩) (PAt.same G (fun A m e=>by have e:A=b0:=e;have:=m.1;omega) R.bound)
theorem Rk {T:List Tok} {w W9 wr w8 WS:World} {b0 m b6 G aq:Nat} {l:List Tr} {u:Tr} {F:Fx} {pub L rE:Bool} {sa sb:ByteArray} {op rC:Int} {J pc pw pk:Option Addr} {I H U O Z R Y rq:Nat} {ak:List (List Value)} {x0 x1 x2 x3 x4 x5 x6 x7 x8 x9 gE gw fS fv kU:Value}
  (aL:w.heap.size=b0) (lu:b0<m) (Gj:m<G) (ap:w.grownBy wr none) (ao:wr.grownBy w8 none) (au:Fr2 (dm G) w8 WS) (dq:WS.heap[m]? = some (.cells #[x0,x1,x2,x3,x4,x5,x6,x7,x8,x9,gE,gw,fS,fv,kU] 62 (0,0)))
  (aJ:aq=G) (ax:G+1<=W9.heap.size) (ay:G+1<=wr.heap.size) (hQ:PAt (fun A=>m+1<=A/\A<aq/\A≠b6) W9 F [aD F.nm,.int .i64 (F.base:Int),.slice pc U O,.int .i64 (F.ps:Int),.int .i64 F.bare]) (hF:Fr2 (fun A=>A=G) W9 wr)
  (hO:ag 5 73 wr W9.heap.size (.slice J I H) ak) (eh:eZ (fun A=>G+1<=A/\A<wr.heap.size/\A≠G/\(Value.slice J I H).ownBlock≠some A) wr (bA T l) ak)
  (hE:EAt (fun A=>wr.heap.size<=A) w8 (axT T u) [.int .i64 op,.string sa,.string sb,.bool L,.slice pw Z R,.bool rE,.slice pk Y rq,.int .i64 rC]):
  Bz ⟨pub,bA T l,F,axT T u⟩ w (.returned (.agg #[.bool pub,.string ⟨F.nm.toArray⟩,.slice J I H,.int .i64 (F.base:Int),.slice pc U O,.int .i64 op,.string sa,.string sb,.bool L,.slice pw Z R,.bool rE,.slice pk Y rq,.int .i64 rC,.int .i64 (F.ps:Int),.int .i64 F.bare])) (((((((((((((((WS.setCell ⟨m,0,none⟩ (.bool pub)).setCell ⟨m,1,none⟩ (.string ⟨F.nm.toArray⟩)).setCell ⟨m,2,none⟩ (.slice J I H)).setCell ⟨m,3,none⟩ (.int .i64 (F.base:Int))).setCell ⟨m,4,none⟩ (.slice pc U O)).setCell ⟨m,5,none⟩ (.int .i64 op)).setCell ⟨m,6,none⟩ (.string sa)).setCell ⟨m,7,none⟩ (.string sb)).setCell ⟨m,8,none⟩ (.bool L)).setCell ⟨m,9,none⟩ (.slice pw Z R)).setCell ⟨m,10,none⟩ (.bool rE)).setCell ⟨m,11,none⟩ (.slice pk Y rq)).setCell ⟨m,12,none⟩ (.int .i64 rC)).setCell ⟨m,13,none⟩ (.int .i64 (F.ps:Int))).setCell ⟨m,14,none⟩ (.int .i64 F.bare)):=by
 obtain⟨hp,hf⟩:=EG dq (.bool pub) (.string ⟨F.nm.toArray⟩) (.slice J I H) (.int .i64 (F.base:Int)) (.slice pc U O) (.int .i64 op) (.string sa) (.string sb) (.bool L) (.slice pw Z R) (.bool rE) (.slice pk Y rq) (.int .i64 rC) (.int .i64 (F.ps:Int)) (.int .i64 F.bare)
 have qL:Fr2 (fun A=>A=G\/A=m) w8 (((((((((((((((WS.setCell ⟨m,0,none⟩ (.bool pub)).setCell ⟨m,1,none⟩ (.string ⟨F.nm.toArray⟩)).setCell ⟨m,2,none⟩ (.slice J I H)).setCell ⟨m,3,none⟩ (.int .i64 (F.base:Int))).setCell ⟨m,4,none⟩ (.slice pc U O)).setCell ⟨m,5,none⟩ (.int .i64 op)).setCell ⟨m,6,none⟩ (.string sa)).setCell ⟨m,7,none⟩ (.string sb)).setCell ⟨m,8,none⟩ (.bool L)).setCell ⟨m,9,none⟩ (.slice pw Z R)).setCell ⟨m,10,none⟩ (.bool rE)).setCell ⟨m,11,none⟩ (.slice pk Y rq)).setCell ⟨m,12,none⟩ (.int .i64 rC)).setCell ⟨m,13,none⟩ (.int .i64 (F.ps:Int))).setCell ⟨m,14,none⟩ (.int .i64 F.bare)):=(au.mono (fun A B=>.inl B)).trans (hf.mono (fun A B=>.inr B))
 have nW:Fr2 (fun A=>A=G\/A=m) wr (((((((((((((((WS.setCell ⟨m,0,none⟩ (.bool pub)).setCell ⟨m,1,none⟩ (.string ⟨F.nm.toArray⟩)).setCell ⟨m,2,none⟩ (.slice J I H)).setCell ⟨m,3,none⟩ (.int .i64 (F.base:Int))).setCell ⟨m,4,none⟩ (.slice pc U O)).setCell ⟨m,5,none⟩ (.int .i64 op)).setCell ⟨m,6,none⟩ (.string sa)).setCell ⟨m,7,none⟩ (.string sb)).setCell ⟨m,8,none⟩ (.bool L)).setCell ⟨m,9,none⟩ (.slice pw Z R)).setCell ⟨m,10,none⟩ (.bool rE)).setCell ⟨m,11,none⟩ (.slice pk Y rq)).setCell ⟨m,12,none⟩ (.int .i64 rC)).setCell ⟨m,13,none⟩ (.int .i64 (F.ps:Int))).setCell ⟨m,14,none⟩ (.int .i64 F.bare)):=(Fr2.none ao).trans qL
 have fG:=ap.size
 obtain⟨SK,pX,ma⟩:=hO.rows
 refine⟨Fr2.after (aa ap ao) qL (fun A B=>by rcases B with B | B<;>omega),_,rfl,J,I,H,ak,pc,U,O,[.int .i64 op,.string sa,.string sb,.bool L,.slice pw Z R,.bool rE,.slice pk Y rq,.int .i64 rC],rfl,?_,?_,SK.trans (pB eh),?_,?_,fun h0=>?_⟩
 ·exact PAt.mono (fun A E=>by have h1:=E.1;omega) (PAt.same nW (fun A E B=>by have h1:=E.1;have h2:=E.2.1;rcases B with B | B<;>omega) (PAt.same hF (fun A E B=>by have h2:=E.2.1;omega) hQ))
 ·exact EAt.mono (fun A E=>Nat.le_trans fG E) (EAt.same qL (fun A E B=>by have E:wr.heap.size<=A:=E;rcases B with B | B<;>omega) hE)
 ·exact pX.keptS nW (fun h0 av ha B=>by
   obtain⟨a',pS,K4,-⟩:=ma h0
   rw [ha] at pS;injection pS with pS;subst pS
   rcases B with B | B<;>omega)
 ·exact qI (fun A E=>by have h1:=E.1;omega) (od nW (fun A E B=>by have h1:=E.1;rcases B with B | B<;>omega) eh)
 ·obtain⟨a',pS,K4,-⟩:=ma (fun B=>by have h9:=pB eh;rw [B] at h9;exact h0 (fb h9.symm))
  exact⟨a',pS,by omega⟩
end Go.Proofs.YtpkipghjohomcaaGreatDoor
