/- Lemmas. -/
import Derived.Test.YtpkipghjohomcaaGreatDoorP14
set_option linter.unusedVariables false
set_option linter.unusedSimpArgs false
namespace Go.Proofs.YtpkipghjohomcaaGreatDoor
open Go.RowKit List
mutual
theorem zb:∀x:Ex,mF x+1=2*cY x
 | .mk G B A E I m H=>by simp only [mF,cY];have:=Ad m;omega
theorem Ad:∀l:List Ex,sX l=2*iI l
 | []=>by simp [sX,iI]
 | k::l=>by have:=zb k;have:=Ad l;simp only [sX,iI];omega
end
theorem Fo (k:Nat) (o:Nat->Tok) (ks:List Ex):cY (bR k o ks)=1+iI ks:=by
 unfold bR
 repeat' split
 all_goals simp only [cY]
mutual
theorem DP (T:List Tok):∀t:Tr,cY (axT T t)<=szR t
 | .lf B=>by simp only [axT,pW,cY,iI,szR];omega
 | .nd E m=>by
   have h:=ze T m
   simp only [axT,szR]
   split
   ·cases A:bQ T m with
    | nil=>simp only [List.headD,pW,cY,iI];omega
    | cons H G=>rw [A] at h;simp only [List.headD,iI] at h ⊢;omega
   ·rw [Fo];omega
theorem ze (T:List Tok):∀l:List Tr,iI (bQ T l)<=bK l
 | []=>by simp [bQ,iI]
 | t::l=>by
   have m:=DP T t
   have A:=ze T l
   simp only [bQ,bK]
   split
   ·simp only [iI];omega
   ·omega
end
theorem Sp (s:List UInt8):kE s<100:=by unfold kE;split<;>omega
theorem VG (s:List UInt8):unE s<100:=by unfold unE;split<;>omega
theorem Dd (k:Nat) (o:Nat->Tok) (ks:List Ex) (m:∀j,(o j).text.length<=1000000):nM (bR k o ks):=by
 unfold bR
 repeat' split
 all_goals
  refine⟨?_,?_,?_,?_⟩
  all_goals first | exact m _ | exact Sp _ | exact VG _ | simp
theorem RW {x:Ex} (h:nM x) (m:ny (be x)):iL x:=by
 cases x with
 | mk H E B G J A I=>simp only [iL];exact⟨h,m⟩
theorem tu (k:Nat) (o:Nat->Tok) (ks:List Ex):be (bR k o ks)=ks:=by
 unfold bR
 repeat' split
 all_goals rfl
theorem zg:iL pW:=by simp [pW,iL,ny,nM]
mutual
theorem CL (T:List Tok) (A:∀t∈T,t.text.length<=1000000):∀t:Tr,iL (axT T t)
 | .lf H=>by simp only [axT];exact zg
 | .nd I m=>by
   have h:=vh T A m
   simp only [axT]
   split
   ·cases E:bQ T m with
    | nil=>exact zg
    | cons L J=>rw [E] at h;simp only [ny] at h;exact h.1
   ·refine RW (Dd _ _ _ (fun G=>?_)) (by rw [tu];exact h)
    unfold tkT
    cases B:T[(ba m).getD G T.length]? with
    | none=>simp
    | some t=>exact A t (gn B)
theorem vh (T:List Tok) (A:∀t∈T,t.text.length<=1000000):∀l:List Tr,ny (bQ T l)
 | []=>by simp [bQ,ny]
 | t::l=>by
   have B:=CL T A t
   have m:=vh T A l
   simp only [bQ]
   split
   ·simp only [ny];exact⟨B,m⟩
   ·exact m
end
def gt (T:List Tok) (l:List Nat):Nat:=(l.map (fun m=>(tkT T m).text.length)).sum
theorem lw (T:List Tok):gt T []=0:=rfl
theorem kp (T:List Tok) (i:Nat) (l:List Nat):gt T (i::l)=(tkT T i).text.length+gt T l:=by unfold gt;simp
theorem mo (T:List Tok) (a b:List Nat):gt T (a++b)=gt T a+gt T b:=by unfold gt;simp
theorem EE (T:List Tok):(tkT T T.length).text = []:=by unfold tkT;simp
theorem afI (T:List Tok) (L:List Nat):(tkT T (L.getD 0 T.length)).text.length+(tkT T (L.getD 1 T.length)).text.length+(tkT T (L.getD 2 T.length)).text.length<=gt T L:=by
 match L with
 | []=>simp [EE,lw]
 | [a]=>simp [EE,kp,lw]
 | [a,b]=>simp [EE,kp,lw]
 | a::b::c::r=>simp only [kp,getD_cons_zero,getD_cons_succ];omega
theorem Ju (k:Nat) (o:Nat->Tok) (ks:List Ex):(fU (bR k o ks)).length<=11+((o 0).text.length+(o 1).text.length+(o 2).text.length):=by
 have m:∀A,(eK A).length<=2:=fun A=>by unfold eK;split<;>simp
 unfold bR
 repeat' split
 all_goals
  simp only [fU,nmE,jc]
  have J:=m 24;have H:=m 22;have G:=m 21;have I:=m 23;have L:=m 3;have B:=m 1;have E:=m 2;have O:=m 4;have R:=m (kE (o 0).text);have U:=m (unE (o 0).text)
  repeat' split
  all_goals (simp only [Q2,hJ,length_nil];omega)
theorem Iu (x:Ex):(cL x).length=(fU x).length+(jl (be x)).length+1:=by
 cases x with
 | mk G B A E I m H=>simp only [cL,be,Q2,length_singleton]
mutual
theorem B7 (T:List Tok):∀t:Tr,(cL (axT T t)).length+1<=13*szR t+gt T (lvT t)
 | .lf I=>by
   have:(cL pW).length=3:=by decide
   simp only [axT,szR];omega
 | .nd E m=>by
   have h:=ta T m
   simp only [axT,szR,lvT]
   split
   ·cases A:bQ T m with
    | nil=>
      have:(cL pW).length=3:=by decide
      simp only [List.headD];omega
    | cons L J=>
      rw [A] at h
      simp only [List.headD,jl,Q2,hJ] at h ⊢
      omega
   ·rw [Iu,tu]
    have G:=Ju E (fun B=>tkT T ((ba m).getD B T.length)) (bQ T m)
    have H:=afI T (ba m)
    omega
theorem ta (T:List Tok):∀l:List Tr,(jl (bQ T l)).length+gt T (ba l)<=13*bK l+gt T (cg l)
 | []=>by simp [bQ,jl,ba,gt,cg,bK]
 | .lf i::l=>by
   have m:=ta T l
   simp only [bQ,isN,ba,cg,lvT,bK,szR,kp,mo,cons_append,nil_append]
   simp only [Bool.false_eq_true,if_false]
   omega
 | .nd k r::l=>by
   have A:=B7 T (.nd k r)
   have m:=ta T l
   simp only [bQ,isN,ba,cg,bK,mo,if_true,jl,Q2,hJ]
   omega
end
open Go.RowKit
theorem JE {wr w7 wa U R:World} {B G base I H L n9 ak:Nat} {J:Option Addr} {Y:List (List Value)} {q:List Value} {ks:List Ex} {x:Ex} {u:Value} (hw:B<=wr.heap.size) (hO:ag 7 68 wr base (.slice J I H) Y) (cB:G<base) (JQ:G<wr.heap.size)
  (kZ:LsR (fun m=>B<=m/\m<wr.heap.size/\m≠G/\(Value.slice J I H).ownBlock≠some m) wr ks Y) (dV:wr.grownBy w7 none) (hq:RAt (fun m=>wr.heap.size<=m) w7 x q) (dz:w7.grownBy wa none) (ao:wa.heap.size=w7.heap.size+1)
  (Z:wa.grownBy U (Value.slice J I H).ownBlock) (el:(Value.slice J I H).ownBlock=some L\/L=w7.heap.size+1) (hf:(U.setCell ⟨G,5,none⟩ u).grownBy R none):
  LsR (fun m=>B<=m/\m<R.heap.size/\m≠G/\(Value.slice (some ⟨L,0,none⟩) n9 ak).ownBlock≠some m) R (ks++[x]) (Y++[q]):=by
 have qU:=ag.at hO
 have s7:=dV.size
 have s9:=Z.size
 have sf:=hf.size
 have sc:(U.setCell ⟨G,5,none⟩ u).heap.size=U.heap.size:=by simp [World.setCell]
 have fr:Fr2 (fun m=>(Value.slice J I H).ownBlock=some m\/m=G) w7 R:=
  ((Fr2.none dz).trans ((Fr2.of Z (fun m A=>.inl A)).trans ((Fr2.setCell (Fr2.refl _ _) (.inr rfl) u).trans (Fr2.none hf))))
 have bc:∀m,m<w7.heap.size->(Value.slice J I H).ownBlock≠some m->(Value.slice (some ⟨L,0,none⟩) n9 ak).ownBlock≠some m:=fun m E O A=>by
  have A:L=m:=Option.some.inj (show some L=some m from A)
  rcases el with h | h
  ·exact O (by rw [h,A])
  ·omega
 have sH:∀m,wr.heap.size<=m->(Value.slice J I H).ownBlock≠some m:=fun m E A=>by have:=qU _ A;omega
 refine Hs ?_ ?_
 ·have O:=RAt.same fr (fun m (E:wr.heap.size<=m/\m<w7.heap.size)=>fun A=>by
   rcases A with A | A
   ·exact sH m E.1 A
   ·omega) hq.bound
  exact RAt.mono (fun m E=>⟨by omega,by omega,by omega,bc m E.2 (sH m E.1)⟩) O
 ·have O:=LsR.same fr (fun m (E:B<=m/\m<wr.heap.size/\m≠G/\(Value.slice J I H).ownBlock≠some m)=>fun A=>by
   rcases A with A | A
   ·exact E.2.2.2 A
   ·exact E.2.2.1 A) (kZ.kept dV)
  exact LsR.mono (fun m E=>⟨E.1,by omega,E.2.2.1,bc m (by omega) E.2.2.2⟩) O
open Go.RowKit List Go.World
theorem ju {W:World} {B:Nat} {T:TypeId} {x0 I H G E A m:Value} (J:W.heap[B]? = some (.cells #[x0,I,H,G,E,A,m] T (0,0))) (a b c d e f g:Value):(((((((W.setCell ⟨B,0,none⟩ a).setCell ⟨B,1,none⟩ b).setCell ⟨B,2,none⟩ c).setCell ⟨B,3,none⟩ d).setCell ⟨B,4,none⟩ e).setCell ⟨B,5,none⟩ f).setCell ⟨B,6,none⟩ g).heap[B]? = some (.cells #[a,b,c,d,e,f,g] T (0,0))/\Fr2 (dm B) W (((((((W.setCell ⟨B,0,none⟩ a).setCell ⟨B,1,none⟩ b).setCell ⟨B,2,none⟩ c).setCell ⟨B,3,none⟩ d).setCell ⟨B,4,none⟩ e).setCell ⟨B,5,none⟩ f).setCell ⟨B,6,none⟩ g):=by
 have L:(W.setCell ⟨B,0,none⟩ a).heap[B]? = some (.cells #[a,I,H,G,E,A,m] T (0,0)):=ab (i:=0) (u:=a) J
 have O:((W.setCell ⟨B,0,none⟩ a).setCell ⟨B,1,none⟩ b).heap[B]? = some (.cells #[a,b,H,G,E,A,m] T (0,0)):=ab (i:=1) (u:=b) L
 have R:(((W.setCell ⟨B,0,none⟩ a).setCell ⟨B,1,none⟩ b).setCell ⟨B,2,none⟩ c).heap[B]? = some (.cells #[a,b,c,G,E,A,m] T (0,0)):=ab (i:=2) (u:=c) O
 have U:((((W.setCell ⟨B,0,none⟩ a).setCell ⟨B,1,none⟩ b).setCell ⟨B,2,none⟩ c).setCell ⟨B,3,none⟩ d).heap[B]? = some (.cells #[a,b,c,d,E,A,m] T (0,0)):=ab (i:=3) (u:=d) R
 have Y:(((((W.setCell ⟨B,0,none⟩ a).setCell ⟨B,1,none⟩ b).setCell ⟨B,2,none⟩ c).setCell ⟨B,3,none⟩ d).setCell ⟨B,4,none⟩ e).heap[B]? = some (.cells #[a,b,c,d,e,A,m] T (0,0)):=ab (i:=4) (u:=e) U
 have Z:((((((W.setCell ⟨B,0,none⟩ a).setCell ⟨B,1,none⟩ b).setCell ⟨B,2,none⟩ c).setCell ⟨B,3,none⟩ d).setCell ⟨B,4,none⟩ e).setCell ⟨B,5,none⟩ f).heap[B]? = some (.cells #[a,b,c,d,e,f,m] T (0,0)):=ab (i:=5) (u:=f) Y
 have h7:(((((((W.setCell ⟨B,0,none⟩ a).setCell ⟨B,1,none⟩ b).setCell ⟨B,2,none⟩ c).setCell ⟨B,3,none⟩ d).setCell ⟨B,4,none⟩ e).setCell ⟨B,5,none⟩ f).setCell ⟨B,6,none⟩ g).heap[B]? = some (.cells #[a,b,c,d,e,f,g] T (0,0)):=ab (i:=6) (u:=g) Z
 exact⟨h7,(Fr2.setCell (Fr2.setCell (Fr2.setCell (Fr2.setCell (Fr2.setCell (Fr2.setCell (Fr2.setCell (Fr2.refl (dm B) W) (g:=B) (j:=0) (aK B) a) (g:=B) (j:=1) (aK B) b) (g:=B) (j:=2) (aK B) c) (g:=B) (j:=3) (aK B) d) (g:=B) (j:=4) (aK B) e) (g:=B) (j:=5) (aK B) f) (g:=B) (j:=6) (aK B) g)⟩
theorem aN {w:World} {r:Nat} {a b c d e f g:Value} {T:TypeId} (m:w.heap[r]? = some (.cells #[a,b,c,d,e,f,g] T (0,0))):w.cell? ⟨r,0,none⟩=some a/\w.cell? ⟨r,1,none⟩=some b/\w.cell? ⟨r,2,none⟩=some c/\w.cell? ⟨r,3,none⟩=some d/\w.cell? ⟨r,4,none⟩=some e/\w.cell? ⟨r,5,none⟩=some f/\w.cell? ⟨r,6,none⟩=some g/\∀o,w.frozen? ⟨r,o,none⟩=false:=
 ⟨by rw [hZ w r 0 _ T (0,0) m];rfl,by rw [hZ w r 1 _ T (0,0) m];rfl,by rw [hZ w r 2 _ T (0,0) m];rfl,by rw [hZ w r 3 _ T (0,0) m];rfl,by rw [hZ w r 4 _ T (0,0) m];rfl,by rw [hZ w r 5 _ T (0,0) m];rfl,by rw [hZ w r 6 _ T (0,0) m];rfl,fun o=>by simp [World.frozen?,m]⟩
theorem XD:(Tryz.prog.info? 68).map (fun m=>(m.zero,m.size,m.bytes))=some (some (.agg #[.int .i64 0,.string ⟨#[]⟩,.string ⟨#[]⟩,.string ⟨#[]⟩,.bool false,.slice none 0 0,.int .i64 0]),7,96):=by kernel_rfl
theorem RAt.seven {F:Nat->Prop} {w:World} {x:Ex} {q:List Value} (h:RAt F w x q):∃m A B E G H I,q = [m,A,B,E,G,H,I]:=by
 cases x with
 | mk Y R O U ys L ps=>
   simp only [RAt] at h
   obtain⟨Z,J,ak,rfl,-⟩:=h
   exact⟨_,_,_,_,_,_,_,rfl⟩
theorem RAt.plain {F:Nat->Prop} {w:World} {B E:Nat} {ks:List Ex} {q:List Value} (h:RAt F w (.mk B [] [] [] false ks E) q):∃A I m,q = [.int .i64 (B:Int),.string ⟨#[]⟩,.string ⟨#[]⟩,.string ⟨#[]⟩,.bool false,.slice A I m,.int .i64 (E:Int)]/\
  ∀H G:List UInt8,RAt F w (.mk B H G [] false ks E) [.int .i64 (B:Int),.string ⟨H.toArray⟩,.string ⟨G.toArray⟩,.string ⟨#[]⟩,.bool false,.slice A I m,.int .i64 (E:Int)]:=by
 simp only [RAt] at h
 obtain⟨A,m,R,rfl,J,L,O⟩:=h
 exact⟨A,ks.length,m,rfl,fun H G=>by simp only [RAt];exact⟨A,m,R,rfl,J,L,O⟩⟩
theorem RAt.none_ {F:Nat->Prop} {w:World} (B E:Nat) (m A:List UInt8) (G:Bool):RAt F w (.mk B m [] A G [] E) [.int .i64 (B:Int),.string ⟨m.toArray⟩,.string ⟨#[]⟩,.string ⟨A.toArray⟩,.bool G,.slice none 0 0,.int .i64 (E:Int)]:=by
 simp only [RAt]
 exact⟨none,0,[],rfl,GAt.nil,by simp [LsR],fun h=>absurd rfl h⟩
def iq (x:Ex) (w:World) (e:Ending) (A:World):Prop:=w.grownBy A none/\∃m,e=.returned (.agg m.toArray)/\RAt (fun B=>w.heap.size<=B) A x m
def RIH (T:List Tok) (N:List Nd) (K:Nat->Option Addr×Nat) (pt pn:Option Addr) (ct cn m:Nat):Prop:=
 ∀(A:Tr) (B:Nat) (w:World),szR A<=m->kQ T N (B:Int) A->bl w pt (T.map toI)->al w pn N K->
  Calls Tryz.prog 58 #[.agg #[.slice pt T.length ct,.slice pn N.length cn],.int .i64 (B:Int)] w (iq (axT T A) w)
theorem fp {w A:World} {m:Nat} {T:TypeId} {R U Y Z x4 x5 x6 a b c d e f g:Value} {F:Nat->Prop} {x:Ex} (H:w.grownBy A none) (hb:w.heap.size<=m) (I:A.heap[m]? = some (.cells #[R,U,Y,Z,x4,x5,x6] T (0,0))) (J:RAt F A x [a,b,c,d,e,f,g]) (E:∀k,F k->w.heap.size<=k/\k≠m):
  iq x w (.returned (.agg #[a,b,c,d,e,f,g])) (((((((A.setCell ⟨m,0,none⟩ a).setCell ⟨m,1,none⟩ b).setCell ⟨m,2,none⟩ c).setCell ⟨m,3,none⟩ d).setCell ⟨m,4,none⟩ e).setCell ⟨m,5,none⟩ f).setCell ⟨m,6,none⟩ g):=by
 obtain⟨hp,G⟩:=ju I a b c d e f g
 refine⟨Fr2.after H G (fun O L=>by have e:O=m:=L;omega),[a,b,c,d,e,f,g],rfl,?_⟩
 exact RAt.mono (fun k B=>(E k B).1) (RAt.same G (fun k B e=>(E k B).2 e) J)
def EF (m:Nat) (E G:ByteArray) (A:Nat) (w:World) (e:Ending) (B:World):Prop:=e=.returned (.agg #[.int .i64 (m:Int),.string E,.string G,.int .i64 (A:Int)])/\w.grownBy B none
theorem fV {T:List Tok} {N:List Nd} {K:Nat->Option Addr×Nat} {pt pn:Option Addr} {ct cn:Nat} (hT:T.length<=40000) (hN:N.length<=150000) {n j i:Nat} {ks:List Int} {l:List Tr} (U:KT N n ks l) (R:l[j]? = some (.lf i)) (B:i<T.length):
  ∃(k G:Nat) (y1 E:ByteArray) (m:Nat),ks[j]? = some (k:Int)/\E=⟨(tkT T i).text.toArray⟩/\m=(tkT T i).pos/\∀W,bl W pt (T.map toI)->al W pn N K->Calls Tryz.prog 25 #[.agg #[.slice pt T.length ct,.slice pn N.length cn],.int .i64 (k:Int)] W (EF G y1 E m W):=by
 obtain⟨k,I,H,-⟩:=U.2 j _ R
 obtain⟨Z,A,Y⟩:=H.lf
 have A:k=Z:=by omega
 subst A
 refine⟨k,(tkT T i).kind,⟨(tkT T i).lead.toArray⟩,_,_,I,rfl,rfl,fun W J L=>?_⟩
 have h:=Hx (T.map toI) N K pt pn ct cn k _ W J L Y (fun _=>⟨by simp,by simpa using B⟩) (by rw [length_map];omega)
 rw [length_map] at h
 have O:rD (T.map toI) ⟨19,(i:Int),[]⟩=toI (tkT T i):=by
  unfold rD tkT
  rw [if_pos rfl]
  simp only [Int.toNat_natCast,getElem?_map,QS B]
  rfl
 rw [O] at h
 exact h
theorem RC {T:List Tok} {N:List Nd} {K:Nat->Option Addr×Nat} {pt pn:Option Addr} {ct cn:Nat} (hT:T.length<=40000) (hN:N.length<=150000) {n j m:Nat} {ks:List Int} {l q:List Tr} (U:KT N n ks l) (R:l[j]? = some (.nd m q)) (hm:m≠19):
  ∃(k B:Nat) (y1 y2:ByteArray) (E:Nat),ks[j]? = some (k:Int)/\∀W,bl W pt (T.map toI)->al W pn N K->Calls Tryz.prog 25 #[.agg #[.slice pt T.length ct,.slice pn N.length cn],.int .i64 (k:Int)] W (EF B y1 y2 E W):=by
 obtain⟨k,I,G,-⟩:=U.2 j _ R
 obtain⟨n',Z,A,Y,-⟩:=G.nd
 have A:k=n':=by omega
 subst A
 refine⟨k,0,⟨#[]⟩,⟨#[]⟩,0,I,fun W J L=>?_⟩
 have h:=Hx (T.map toI) N K pt pn ct cn k _ W J L Y (fun H=>absurd H (by show(m:Int)≠19;omega)) (by rw [length_map];omega)
 rw [length_map] at h
 have O:rD (T.map toI) ⟨(m:Int),-1,Z⟩=CN:=by
  unfold rD
  rw [if_neg (show ¬(m:Int)=19 by omega)]
 rw [O] at h
 exact h
theorem gN {T:List Tok} {N:List Nd} {K:Nat->Option Addr×Nat} {pt pn:Option Addr} {ct cn:Nat} (O:T.length<=40000) (L:N.length<=150000) {n:Nat} {ks:List Int} {l:List Tr} (R:KT N n ks l) (U:fj l) (Y:∀z∈cg l,z<T.length) (h0:0<l.length):
  ∃(k E:Nat) (G B:ByteArray) (m:Nat),ks[0]? = some (k:Int)/\(∀i,l[0]? = some (.lf i)->B=⟨(tkT T i).text.toArray⟩/\m=(tkT T i).pos)/\∀W,bl W pt (T.map toI)->al W pn N K->Calls Tryz.prog 25 #[.agg #[.slice pt T.length ct,.slice pn N.length cn],.int .i64 (k:Int)] W (EF E G B m W):=by
 obtain⟨J,A⟩:∃J,l[0]? = some J:=⟨l[0],QS _⟩
 cases J with
 | lf i=>
   obtain⟨k,E,G,B,m,H,Z,h3,I⟩:=fV (K:=K) (pt:=pt) (pn:=pn) (ct:=ct) (cn:=cn) O L R A (Y i (dy A i (by simp [lvT])))
   refine⟨k,E,G,B,m,H,fun i' h=>?_,I⟩
   rw [A] at h
   injection h with h;injection h with h;subst h
   exact⟨Z,h3⟩
 | nd ak ao=>
   have hm:ak≠19:=by have h:=da U A;simp only [kOk] at h;omega
   obtain⟨k,E,G,B,m,H,I⟩:=RC (K:=K) (pt:=pt) (pn:=pn) (ct:=ct) (cn:=cn) O L R A hm
   refine⟨k,E,G,B,m,H,fun i' h=>?_,I⟩
   rw [A] at h
   injection h with h;cases h
theorem gU {T:List Tok} {N:List Nd} {l:List Tr} (J:WEs T l) (A:fj l) (B:∀i∈cg l,i<T.length):∀t∈l,isN t=true->∀k:Int,ug N k t->kQ T N k t:=fun t I H k G=>by
 obtain⟨L,m⟩:=getElem?_of_mem I
 exact⟨H,uS J m,da A m,fun i E=>B i (dy m i E),G⟩
section
variable (T:List Tok)
theorem ax7 (i j:Nat) (l:List Tr):axT T (.nd 7 (.lf i::.lf j::l))=.mk 22 (tkT T j).text [] [] false (bQ T (.lf i::.lf j::l)) (tkT T i).pos:=by rw [axT,if_neg (by decide)];simp [bR,ba]
theorem ax8 (i:Nat) (l:List Tr):axT T (.nd 8 (.lf i::l))=.mk 21 [] [] [] false (bQ T (.lf i::l)) (tkT T i).pos:=by rw [axT,if_neg (by decide)];simp [bR,ba]
theorem ax9 (i:Nat) (l:List Tr):axT T (.nd 9 (.lf i::l))=.mk 23 [] [] [] false (bQ T (.lf i::l)) (tkT T i).pos:=by rw [axT,if_neg (by decide)];simp [bR,ba]
theorem agx (m j:Nat) (q l:List Tr):axT T (.nd 10 (.nd m q::.lf j::l))=.mk (kE (tkT T j).text) [] [] [] false (bQ T (.nd m q::.lf j::l)) (tkT T j).pos:=by rw [axT,if_neg (by decide)];simp [bR,ba]
theorem ab9 (i:Nat) (l:List Tr):axT T (.nd 11 (.lf i::l))=.mk (unE (tkT T i).text) [] [] [] false (bQ T (.lf i::l)) (tkT T i).pos:=by rw [axT,if_neg (by decide)];simp [bR,ba]
theorem ag9 (i j:Nat) (l:List Tr) (h:(tkT T j).text≠[46]):axT T (.nd 13 (.lf i::.lf j::l))=.mk 24 (tkT T i).text [] [] false (bQ T (.lf i::.lf j::l)) (tkT T i).pos:=by rw [axT,if_neg (by decide)];simp [bR,ba,h]
theorem acr (i j m:Nat) (l:List Tr) (h:(tkT T j).text = [46]):axT T (.nd 13 (.lf i::.lf j::.lf m::l))=.mk 24 (tkT T m).text (tkT T i).text [] false (bQ T (.lf i::.lf j::.lf m::l)) (tkT T i).pos:=by rw [axT,if_neg (by decide)];simp [bR,ba,h]
theorem afa (i:Nat):axT T (.nd 14 [.lf i])=.mk 3 (tkT T i).text [] [] false [] (tkT T i).pos:=by rw [axT,if_neg (by decide)];simp [bR,ba,bQ,isN]
theorem aeb (i:Nat):axT T (.nd 15 [.lf i])=.mk 1 [] [] (tkT T i).text false [] (tkT T i).pos:=by rw [axT,if_neg (by decide)];simp [bR,ba,bQ,isN]
theorem acu (i:Nat):axT T (.nd 16 [.lf i])=.mk 2 [] [] [] (decide ((tkT T i).text = [116,114,117,101])) [] (tkT T i).pos:=by rw [axT,if_neg (by decide)];simp [bR,ba,bQ,isN]
theorem afJ (i:Nat):axT T (.nd 17 [.lf i])=.mk 4 [] [] [] false [] (tkT T i).pos:=by rw [axT,if_neg (by decide)];simp [bR,ba,bQ,isN]
end
theorem ZF (T:List Tok) (i:Nat) (l:List Tr) (h:(tkT T i).text = [110,111,116]):axT T (.nd 11 (.lf i::l))=.mk 6 [] [] [] false (bQ T (.lf i::l)) (tkT T i).pos:=by rw [ab9,h];rfl
theorem abE (T:List Tok) (i:Nat) (l:List Tr) (h:(tkT T i).text = [45]):axT T (.nd 11 (.lf i::l))=.mk 5 [] [] [] false (bQ T (.lf i::l)) (tkT T i).pos:=by rw [ab9,h];rfl
theorem acO (T:List Tok) (i:Nat) (h:(tkT T i).text = [116,114,117,101]):axT T (.nd 16 [.lf i])=.mk 2 [] [] [] true [] (tkT T i).pos:=by rw [acu,zd h]
theorem abj (T:List Tok) (i:Nat) (h:(tkT T i).text≠[116,114,117,101]):axT T (.nd 16 [.lf i])=.mk 2 [] [] [] false [] (tkT T i).pos:=by rw [acu,VW h]
theorem RAt.form {F:Nat->Prop} {w:World} {x:Ex} {q:List Value} (h:RAt F w x q):∃(m:Int) (a b c:ByteArray) (y:Bool) (p:Option Addr) (n B:Nat) (A:Int),q = [.int .i64 m,.string a,.string b,.string c,.bool y,.slice p n B,.int .i64 A]:=by
 cases x with
 | mk m I H J R G A=>
   simp only [RAt] at h
   obtain⟨L,E,O,rfl,-⟩:=h
   exact⟨_,_,_,_,_,_,_,_,_,rfl⟩
theorem Jb (w:World) (A:Obj):∃(W:World) (b0:Nat),W=w.alloc A/\w.heap.size=b0/\W.heap[b0]? = some A/\w.grownBy W none/\W.heap.size=b0+1:=⟨_,_,rfl,rfl,YK w A,qn w A none,by simp⟩
theorem lK (a d:Int) (b c:ByteArray) (w:World):(Instr.field 88 (.agg #[.int .i64 a,.string b,.string c,.int .i64 d]) 2).run Tryz.prog w=.ok (.string c) w:=by kernel_rfl
theorem Qw {S:Nat->Prop} {A w m:World} {p:Option Addr} {T:List fN} (G:bl A p T) (h:bl w p T) (J:Fr2 S w m) (H:∀k,S k->A.heap.size<=k):bl m p T:=GAt.keptS h J (fun L B I E=>by
 have O:=GAt.blk G L B I
 have R:=H _ E
 omega)
theorem Mj {S:Nat->Prop} {Y w U:World} {p:Option Addr} {N:List Nd} {K:Nat->Option Addr×Nat} (H:al Y p N K) (h:al w p N K) (L:Fr2 S w U) (J:∀k,S k->Y.heap.size<=k):al U p N K:=⟨GAt.keptS h.1 L (fun E G B A=>by
 have h1:=GAt.blk H.1 E G B
 have I:=J _ A
 omega),fun R Z O=>VAt.keptS (h.2 R Z O) L (fun E G B A=>by
 rcases H.2 R Z O with m | ⟨ak,ao,m,hl,-⟩
 ·exact absurd m E
 ·rw [B] at m;injection m with m;subst m;have I:=J _ A;exact absurd hl (Nat.not_lt.2 I))⟩
theorem di {E:World} {B g j:Nat} {v a b c d:Value} (h:E.cell? ⟨g,j,none⟩=some v) (A:g≠B):((((E.setCell ⟨B,0,none⟩ a).setCell ⟨B,1,none⟩ b).setCell ⟨B,2,none⟩ c).setCell ⟨B,3,none⟩ d).cell? ⟨g,j,none⟩=some v:=by
 rw [vr _ _ _ _ (fun m=>A m.symm),vr _ _ _ _ (fun m=>A m.symm),vr _ _ _ _ (fun m=>A m.symm),vr _ _ _ _ (fun m=>A m.symm)]
 exact h
theorem Hj {E:World} {B A j:Nat} {v a b c d e f g:Value} (h:E.cell? ⟨A,j,none⟩=some v) (m:A≠B):(((((((E.setCell ⟨B,0,none⟩ a).setCell ⟨B,1,none⟩ b).setCell ⟨B,2,none⟩ c).setCell ⟨B,3,none⟩ d).setCell ⟨B,4,none⟩ e).setCell ⟨B,5,none⟩ f).setCell ⟨B,6,none⟩ g).cell? ⟨A,j,none⟩=some v:=by
 rw [vr _ _ _ _ (fun e=>m e.symm),vr _ _ _ _ (fun e=>m e.symm),vr _ _ _ _ (fun e=>m e.symm),vr _ _ _ _ (fun e=>m e.symm),vr _ _ _ _ (fun e=>m e.symm),vr _ _ _ _ (fun e=>m e.symm),vr _ _ _ _ (fun e=>m e.symm)]
 exact h
def kr (W:World) (G:Nat) (B:Nat) (I J:ByteArray) (E:Nat) (H:Value) (A:World):Prop:=∃m,H=.pointer (some ⟨m,0,none⟩)/\A.heap[m]? = some (.cells #[.int .i64 (B:Int),.string I,.string J,.int .i64 (E:Int)] 88 (0,0))/\G<m/\W.grownBy A none
theorem jH {W m:World} {E A B:Nat} {G H:ByteArray} (h:W.grownBy m none) (I:E<m.heap.size):kr W E A G H B (.pointer (some ⟨m.heap.size,0,none⟩)) (m.alloc (.cells #[.int .i64 (A:Int),.string G,.string H,.int .i64 (B:Int)] 88)):=
 ⟨m.heap.size,rfl,YK m _,I,af h _⟩
theorem jz {W m:World} {b E A B:Nat} {H I:ByteArray} {R U Y Z:Value} (h:W.grownBy m none) (hb:W.heap.size<=b) (L:E<b) (G:m.heap[b]? = some (.cells #[R,U,Y,Z] 88 (0,0))):kr W E A H I B (.pointer (some ⟨b,0,none⟩)) ((((m.setCell ⟨b,0,none⟩ (.int .i64 (A:Int))).setCell ⟨b,1,none⟩ (.string H)).setCell ⟨b,2,none⟩ (.string I)).setCell ⟨b,3,none⟩ (.int .i64 (B:Int))):=
 ⟨b,rfl,(LE G _ _ _ _).1,L,Fr2.after h (LE G _ _ _ _).2 (fun O J=>by have ak:O=b:=J;omega)⟩
end Go.Proofs.YtpkipghjohomcaaGreatDoor
namespace Go.Proofs.YtpkipghjohomcaaGreatDoor
def dW (base:Nat) (m:List Ex):List UInt8:=58::(eK base++m.flatMap cL)
def jd (f:Fx):List UInt8:=32::(f.nm++dW f.base f.cl)
def jF (d:Dx):List UInt8:=(if d.pub=true then [112,117,98,32] else [])++(d.res.nm++(d.ps.flatMap jd++(32::(dW d.res.base d.res.cl++([32,61,32]++(cL d.body++[10]))))))
def fO (x:List UInt8×Nat):List UInt8:=[105,109,112,111,114,116,32]++(x.1++[10])
def si (P:Px):List UInt8:=P.imps.flatMap fO++P.defs.flatMap jF
structure XBd (x:Ex):Prop where
 small:iL x
 cnt:mF x<=1000000
 size:cY x<=1000000
 len:(cL x).length<=100000
structure FBd (f:Fx):Prop where
 name:f.nm.length<=2000
 base:f.base<100
 one:f.cl.length<=1
 cls:∀x∈f.cl,XBd x
structure DBe (d:Dx):Prop where
 pars:∀f∈d.ps,FBd f
 few:d.ps.length<=10000
 res:FBd d.res
 body:XBd d.body
structure PBd (P:Px):Prop where
 imps:∀x∈P.imps,x.1.length<=2000
 few:P.imps.length<=10000
 defs:∀d∈P.defs,DBe d
 fewd:P.defs.length<=10000
theorem qS {α : Type} (f : α->List UInt8) (K:Nat):∀l:List α,(∀x∈l,(f x).length<=K)->(l.flatMap f).length<=l.length*K
 | [],_=>by simp
 | x::l,h=>by
   have B:=h x (by simp)
   have E:=qS f K l (fun A m=>h A (by simp [m]))
   rw [List.flatMap_cons,Q2,hJ,Nat.succ_mul]
   omega
theorem ib {α : Type} (f : α->List UInt8) {l:List α} {j:Nat} {x : α} (h:l[j]? = some x):(l.take (j+1)).flatMap f=(l.take j).flatMap f++f x:=by
 rw [List.take_add_one,h,List.flatMap_append];simp
theorem gS {α : Type} (f : α->List UInt8) (l:List α) (j:Nat):((l.take j).flatMap f).length<=(l.flatMap f).length:=by
 have h:l.flatMap f=(l.take j).flatMap f++(l.drop j).flatMap f:=by rw [<-List.flatMap_append,List.take_append_drop]
 rw [h,Q2];omega
theorem vQ (k:Nat):(eK k).length<=2:=by unfold eK;split<;>simp
theorem lm {f:Fx} (h:FBd f):(dW f.base f.cl).length<=100010:=by
 have E:=qS cL 100000 f.cl (fun B A=>(h.cls B A).len)
 have G:=vQ f.base
 have m:=h.one
 have H:f.cl.length*100000<=1*100000:=Nat.mul_le_mul_right _ m
 unfold dW
 simp only [hJ,Q2]
 omega
theorem PI {f:Fx} (h:FBd f):(jd f).length<=103000:=by
 have m:=lm h
 have A:=h.name
 unfold jd
 simp only [hJ,Q2]
 omega
theorem MJ {d:Dx} (h:DBe d):(jF d).length<=1040000000:=by
 have B:=qS jd 103000 d.ps (fun A m=>PI (h.pars A m))
 have E:=lm h.res
 have G:=h.res.name
 have H:=h.body.len
 have I:d.ps.length*103000<=10000*103000:=Nat.mul_le_mul_right _ h.few
 have J:(if d.pub=true then [112,117,98,32] else []:List UInt8).length<=4:=by split<;>simp
 unfold jF
 simp only [hJ,Q2,List.length_nil]
 omega
theorem LT {x:List UInt8×Nat} (h:x.1.length<=2000):(fO x).length<=3000:=by
 unfold fO
 simp only [hJ,Q2,List.length_nil]
 omega
theorem Co {P:Px} (h:PBd P):(si P).length<=20000000000000:=by
 have B:=qS fO 3000 P.imps (fun A m=>LT (h.imps A m))
 have E:=qS jF 1040000000 P.defs (fun A m=>MJ (h.defs A m))
 have G:P.imps.length*3000<=10000*3000:=Nat.mul_le_mul_right _ h.few
 have H:P.defs.length*1040000000<=10000*1040000000:=Nat.mul_le_mul_right _ h.fewd
 unfold si
 rw [Q2]
 omega
open Go.RowKit List Nat Go.World
theorem kN {w:World} {g:Nat} {cs:Array Value} {T:TypeId} (h:w.heap[g]? = some (.cells cs T (0,0))) (i:Nat):w.frozen? ⟨g,i,none⟩=false:=by
 unfold World.frozen?;simp [h]
theorem uM {base g i:Nat} {w:World} {u:Value} (h:IsD base w g):∀k,IsD base w k->IsD base (w.setCell ⟨g,i,none⟩ u) k:=fun k G=>by
 by_cases E:k=g
 ·subst E
  obtain⟨A,B,m⟩:=G
  exact⟨A,_,ab m⟩
 ·obtain⟨A,B,m⟩:=G
  refine⟨A,B,?_⟩
  rw [(Fr2.setCell (S:=fun k=>k=g) (Fr2.refl _ w) (g:=g) (j:=i) rfl u).block k (hlt m) E];exact m
theorem GK {base g i:Nat} {w:World} (u:Value) (h:IsD base w g):Agr base (fun H I=>H=g/\I=i) w (w.setCell ⟨g,i,none⟩ u):=by
 have m:=Fr2.setCell (S:=fun B=>B=g) (Fr2.refl _ w) (g:=g) (j:=i) rfl u
 refine⟨m.os,m.tape,m.output,m.size,fun B U L=>m.block B L (fun A=>by have:=h.1;omega),uM h,fun H I Y R O J=>?_⟩
 rw [cell?_setCell_other _ _ _ _ (fun A=>O ⟨by injection A with E G;exact E.symm,by injection A with E G;exact G.symm⟩)];exact J
theorem DQ {base g i:Nat} {w:World} {u:Value} (h:IsD base w g) (G:w.cell? ⟨g,i,none⟩=some u):Agr base (fun _ _=>False) w (w.setCell ⟨g,i,none⟩ u):=by
 have m:=GK (i:=i) u h
 refine⟨m.os,m.tape,m.output,m.size,m.old,m.isd,fun E H J I _ A=>?_⟩
 by_cases B:E=g/\H=i
 ·obtain⟨rfl,rfl⟩:=B
  rw [G] at A;cases A
  exact cell?_setCell_same w _ _ G
 ·exact m.cell E H J I B A
theorem vO {w:World} {g i:Nat} {u v:Value} (m:w.cell? ⟨g,i,none⟩=some v):(w.setCell ⟨g,i,none⟩ u).cell? ⟨g,i,none⟩=some u:=cell?_setCell_same w _ _ m
theorem js (w:World) (g i:Nat) (u:Value):Fr2 (fun m=>m=g) w (w.setCell ⟨g,i,none⟩ u):=Fr2.setCell (S:=fun m=>m=g) (Fr2.refl _ w) (g:=g) (j:=i) rfl u
def jt (p:Pd):List Value:=[.pointer (some ⟨p.1,p.2.1,none⟩)]
def szP:List Pd->Nat
 | []=>0
 | p::l=>cY p.2.2+szP l
theorem wQ (a b:List Pd):szP (a++b)=szP a+szP b:=by
 induction a with
 | nil=>simp [szP]
 | cons A a m=>simp only [cons_append,szP,m];omega
theorem J6 (x:Ex):1<=cY x:=by cases x;simp only [cY];omega
theorem uD (l:List Pd):l.length<=szP l:=by
 induction l with
 | nil=>simp [szP]
 | cons m l A=>have:=J6 m.2.2;simp only [hJ,szP];omega
theorem H4 (h:Nat):∀(ks:List Ex) (o:Nat),szP (ks.mapIdx (fun m A=>(h,o+m*8,A)))=iI ks
 | [],o=>by simp [szP,iI]
 | A::ks,o=>by
   rw [mapIdx_cons]
   simp only [szP,iI]
   have B:(fun (m:Nat) (A:Ex)=>((h,o+(m+1)*8,A):Pd))=(fun m A=>(h,(o+8)+m*8,A)):=by
    funext m A;rw [show o+(m+1)*8=o+8+m*8 by omega]
   rw [B,H4 h ks (o+8)]
theorem vj (h:Nat) (ks:List Ex):szP (dE h ks)=iI ks:=by
 have:=H4 h ks 0
 simp only [Nat.zero_add] at this
 exact this
theorem sF (x:Ex):cY x=1+iI (be x):=by cases x;simp only [cY,be]
theorem Wt:(Tryz.prog.info? 110).map (fun m=>(m.zero,m.size,m.bytes))=some (some (.pointer none),1,8):=by kernel_rfl
theorem FV {h:Nat} {ks:List Ex} {j:Nat} (m:j<ks.length):(dE h ks).take (j+1)=(dE h ks).take j++[(h,j*8,ks[j])]:=by
 have:(dE h ks)[j]? = some (h,j*8,ks[j]):=by unfold dE;rw [getElem?_mapIdx,QS m];rfl
 rw [take_add_one,this];rfl
theorem wF {F:Nat->Prop} {base r:Nat} {x:Ex} {P:List Pd} {g o:Nat} {y:Ex} {w:World} (hI:CpI F base r x (P++[(g,o,y)]) w):
  ∃(a b:ByteArray) (H:Option Addr) (J:Nat) (E:List (List Value)),w.cell? ⟨g,o+1,none⟩=some (.string a)/\w.cell? ⟨g,o+2,none⟩=some (.string b)/\w.cell? ⟨g,o+6,none⟩=some (.slice H (be y).length J)/\IsD base w g/\GAt 8 w H E/\LsE (yp F base) w (be y) E/\Wid 8 E:=by
 obtain⟨Y,B,U,L,R⟩:=hI.pend (g,o,y) (by simp)
 cases y with
 | mk op nm md nu ys ks ps=>
   simp only [EAt] at R
   obtain⟨ao,pw,nw,cw,H,J,E,rfl,-,Z,O,-⟩:=R
   exact⟨_,_,H,J,E,L 1 _ rfl,L 2 _ rfl,L 6 _ rfl,Y,Z,O,fun B U=>by
    obtain⟨A,m⟩:=getElem?_of_mem U
    have ak:∀ {G:List Ex} {r:List (List Value)} {A:Nat} {B:List Value},LsE (yp F base) w G r->r[A]? = some B->∃I,EAt (yp F base) w I B:=by
     intro G
     induction G with
     | nil=>intro r A B h m;simp only [LsE] at h;subst h;simp at m
     | cons I G ih=>
       intro r A B h m
       simp only [LsE] at h
       obtain⟨q',r',rfl,h5,h6⟩:=h
       match A,m with
       | 0,m=>simp at m;subst m;exact⟨I,h5⟩
       | A+1,m=>exact ih h6 (by simpa using m)
    obtain⟨I,hz⟩:=ak O m
    exact hz.one⟩
theorem qz {s:Nat} {t T:TypeId} {z:Value} {B:Nat} (Y:0<s) (ht:Tryz.prog.underlying t=some (.slice T)) (hT:(Tryz.prog.info? T).map (fun J=>(J.zero,J.size,J.bytes))=some (some z,s,B)) (hz:z.cells.size=s) (ao:B<=1000)
  {m:World} {U:Array Oper} {rest:List Oper} {o:Oper} {a:Act} {Q:Exit->Act->World->Prop} (fe:o.guard=none) (os L:Operand) (ho:o.op=.call { callee:=.builtin .append,args:=#[os,L],argTypes:=#[t,t] })
  (base:Nat) (l:List (List Value)) (y:List Value) (kw:y.length=s) (R:∀u∈y,u.oneCell'=true) (v:Value) (hs:a.eval os=v) (O:ag s T m base v l) (H:Nat) (hH:m.heap.size=H) (hx:a.eval L=.slice (some ⟨H,0,none⟩) 1 1) (hn:l.length<=1000000) (gu:base<=m.heap.size) (I:Array Value) (ak:I=y.toArray)
  (K:∀g' G E,ag s T E base (.slice (some ⟨g',0,none⟩) (l.length+1) G) (l++[y])->(m.alloc (.cells I T)).grownBy E v.ownBlock->wpList Tryz.prog U Q rest (a.put o.dst (.slice (some ⟨g',0,none⟩) (l.length+1) G)) E):
  wpList Tryz.prog U Q (o::rest) a (m.alloc (.cells I T)):=by
 subst hH;subst ak
 obtain⟨i0,hi,ap,aq,au⟩:=info_parts hT
 have Z:=World.ownsRow.alloc O.1 (.cells y.toArray T)
 have hb:(l.length+1)*B<=140737488355328:=by
  have:(l.length+1)*B<=(l.length+1)*1000:=mul_le_mul_left _ ao
  omega
 refine wpList_append_lies (P:=Tryz.prog) _ fe os L t ho base T i0 z s B ht hi ap aq au hz Y _ l.length l.flatten hs Z ⟨m.heap.size,0,none⟩ 1 1 y hx (by omega) ?_ R (by omega) (by unfold maxLen;omega) hb (by simp;omega) (m.heap.size+1) (by simp) ?_
 ·intro ax u hj
  rw [Addr.add_lit,hZ _ m.heap.size _ _ _ (0,0) (YK m _)]
  rw [Nat.zero_add,Q7];exact hj
 ·intro g' G E h3 h4 h5 _
  refine K g' G E ⟨by simpa using h3,fun av A=>?_⟩ h4
  rcases mem_append.1 A with A | A
  ·exact O.2 av A
  ·simp at A;subst A;exact⟨kw,R⟩
theorem AB {s B n c:Nat} {T:TypeId} {w:World} {p:Option Addr} {l:List (List Value)} (h:ag s T w B (.slice p n c) l):∀k,(Value.slice p n c).ownBlock=some k->B<=k/\∃cs,w.heap[k]? = some (.cells cs T (0,0)):=fun k m=>by
 rcases h.1.2 with ⟨A,-⟩ | ⟨E,L,H,A,I,J,-⟩
 ·rw [A] at m;cases m
 ·rw [A] at m
  have G:E=k:=Option.some.inj (show some E=some k from m)
  subst G;exact⟨I,H,J⟩
theorem QF {base s B n c:Nat} {T:TypeId} {a b:World} {p:Option Addr} {l:List (List Value)} (L:ag s T a B (.slice p n c) l) (hB:base<=B) (R:T≠60) (h:a.grownBy b (Value.slice p n c).ownBlock):Agr base (fun _ _=>False) a b:=by
 have I:∀m,IsD base a m->some m≠(Value.slice p n c).ownBlock:=fun m E G=>by
  obtain⟨-,J,H⟩:=AB L m G.symm
  obtain⟨-,ak,A⟩:=E
  rw [H] at A;injection A with A;injection A with _ A;exact R A
 refine⟨h.os,h.tape,h.output,h.size,fun O hk Y=>h.block O Y (fun G=>by have:=(AB L O G.symm).1;omega),fun m E=>?_,fun m ao ap E _ U=>?_⟩
 ·have Z:=I m E
  obtain⟨H,J,A⟩:=E
  exact⟨H,J,(h.block m (hlt A) Z).trans A⟩
 ·rw [cell?_of_block (w:=a) (h.block m E.lt (I m E))];exact U
theorem LJ {F:Nat->Prop} {base r:Nat} {x:Ex} {P:List Pd} {g o:Nat} {y:Ex} {wc G:World} {E:Option Addr} {R I:Nat} {aq:List (List Value)} {u:Value} (hI:CpI F base r x (P++[(g,o,y)]) wc) (cJ:g≠base+1) (IG:base+2<=wc.heap.size) (L:wc.grownBy G none)
  (hO:ag 8 60 G wc.heap.size (.slice E R I) aq) (Y:LsE (yp F base) wc (be y) aq) (hD:IsD base wc g) (c6:wc.cell? ⟨g,o+6,none⟩=some u) (hn:R=(be y).length):
  ∃h,(be y≠[]->E=some ⟨h,0,none⟩/\wc.heap.size<=h/\h<G.heap.size)/\CpI F base r x (P++dE h (be y)) (G.setCell ⟨g,o+6,none⟩ (.slice E R I)):=by
 subst hn
 have Cd:=jk Y
 have ak:=(Agr.gb (base:=base) (fun _ _=>False) L).isd _ hD
 have hA:Agr base (fun g' i=>g'=g/\i=o+6) wc (G.setCell ⟨g,o+6,none⟩ (.slice E (be y).length I)):=(Agr.gb (base:=base) (fun _ _=>False) L).trans (GK (i:=o+6) _ ak) _ (fun _ _ _ m=>m.elim) (fun _ _ _ m=>m)
 have QB:=vO (u:=.slice E (be y).length I) (L.cell c6 (by simp))
 have ax:∃h,(be y≠[]->E=some ⟨h,0,none⟩/\wc.heap.size<=h/\IsD base G h):=by
  rcases hO.1.2 with ⟨B,A⟩ | ⟨ao,aJ,ep,B,hb,hh,-⟩
  ·exact⟨0,fun h=>by rw [Cd] at A;exact absurd (fb A) h⟩
  ·injection B with B Z h3
   exact⟨ao,fun _=>⟨B,hb,by have:=hI.le;omega,ep,hh⟩⟩
 obtain⟨h,J⟩:=ax
 refine⟨h,fun A=>⟨(J A).1,(J A).2.1,(J A).2.2.lt⟩,hI.step cJ IG hA QB (fun A=>?_)⟩
 obtain⟨B,Z,h3⟩:=J A
 refine⟨B,Z,uM ak _ h3,fun av ao hj=>?_⟩
 obtain⟨ap,O,he⟩:=wT Y hj
 obtain⟨p',c',m,U,-⟩:=hO.is
 injection m with e1 e2 e3
 rw [<-e1,B] at U
 obtain⟨g2,o2,H,bN,Eg⟩:=U.resolve_left (fun m=>by rw [m] at O;simp at O)
 injection H with H;injection H with H jL;subst H jL
 refine⟨ap,he.one.1,fun i ay hi=>?_,Du hA he⟩
 have h9:=Eg av ap O i ay hi
 rw [Nat.zero_add] at h9
 have au:h≠g:=fun m=>by have:=hD.lt;omega
 rw [cell?_setCell_other _ _ _ _ (fun m=>au (congrArg Addr.block m).symm)];exact h9
open Go.RowKit
def pV (p:Prop) (w:World) (e:Ending) (A:World):Prop:=w.grownBy A none/\∃m:Bool,e=.returned (.bool m)/\(m=true↔p)
theorem er {p:Prop} {w m:World} (A:w.grownBy m none) (h:¬p):pV p w (.returned (.bool false)) m:=⟨A,false,rfl,by simp [h]⟩
def Np (T:List Tok) (nt:NxT) (s:St):RT:=([.nd 12 ((ae T s).1++(nt.expr (ae T s).2).1++(an T [41] (nt.expr (ae T s).2).2).1)],(an T [41] (nt.expr (ae T s).2).2).2)
section
variable {T:List Tok} {nt:NxT} {s:St}
theorem Ms (h:s.e=0/\(az T s).kind=3):cQ T nt s=([.nd 15 (ae T s).1],(ae T s).2):=by
 unfold cQ;rw [if_neg (by omega),if_pos h.2]
theorem L0:((isQ T [116,114,117,101] s || isQ T [102,97,108,115,101] s)=true)↔(isQ T [116,114,117,101] s=true\/isQ T [102,97,108,115,101] s=true):=Bool.or_eq_true_iff
theorem Hy (h:(isQ T [116,114,117,101] s || isQ T [102,97,108,115,101] s)=false):¬(isQ T [116,114,117,101] s=true\/isQ T [102,97,108,115,101] s=true):=fun m=>by rw [L0.2 m] at h;cases h
theorem EP (A:¬(s.e=0/\(az T s).kind=3)) (B:(isQ T [116,114,117,101] s || isQ T [102,97,108,115,101] s)=true) (E:s.e=0):cQ T nt s=([.nd 16 (ae T s).1],(ae T s).2):=by
 unfold cQ;rw [if_neg (by omega),if_neg (fun m=>A ⟨E,m⟩),if_pos (L0.1 B)]
theorem Po (G:s.e=0) (A:¬(s.e=0/\(az T s).kind=3)) (B:(isQ T [116,114,117,101] s || isQ T [102,97,108,115,101] s)=false) (E:s.inn=true/\isQ T [114,101,115] s=true):cQ T nt s=([.nd 17 (ae T s).1],(ae T s).2):=by
 unfold cQ;rw [if_neg (by omega),if_neg (fun m=>A ⟨G,m⟩),if_neg (Hy B),if_pos E]
theorem Cw (B:¬(s.e=0/\(az T s).kind=3)) (E:(isQ T [116,114,117,101] s || isQ T [102,97,108,115,101] s)=false) (G:¬(s.inn=true/\isQ T [114,101,115] s=true)) (m:isQ T [40] s=true):cQ T nt s=Np T nt s:=by
 have H:=(ah m).2
 unfold cQ;rw [if_neg (by omega),if_neg (fun A=>B ⟨H,A⟩),if_neg (Hy E),if_neg G,if_pos m];rfl
theorem zw (I:s.e=0) (A:¬(s.e=0/\(az T s).kind=3)) (B:(isQ T [116,114,117,101] s || isQ T [102,97,108,115,101] s)=false) (E:¬(s.inn=true/\isQ T [114,101,115] s=true)) (G:isQ T [40] s=false) (H:(az T s).kind=1):cQ T nt s=eV T nt s:=by
 unfold cQ;rw [if_neg (by omega),if_neg (fun m=>A ⟨I,m⟩),if_neg (Hy B),if_neg E,if_neg (by rw [G];decide),if_pos H]
theorem zJ (E:¬(s.e=0/\(az T s).kind=3)) (G:(isQ T [116,114,117,101] s || isQ T [102,97,108,115,101] s)=false) (H:¬(s.inn=true/\isQ T [114,101,115] s=true)) (I:isQ T [40] s=false) (J:¬(s.e=0/\(az T s).kind=1)):Eqv ([],aH T 22 s) (cQ T nt s):=by
 unfold cQ
 by_cases A:s.e≠0
 ·rw [if_pos A,ic T A];exact Eqv.refl _
 ·have B:s.e=0:=by omega
  rw [if_neg A,if_neg (fun m=>E ⟨B,m⟩),if_neg (Hy G),if_neg H,if_neg (by rw [I];decide),if_neg (fun m=>J ⟨B,m⟩)];exact Eqv.refl _
end
end Go.Proofs.YtpkipghjohomcaaGreatDoor
set_option maxHeartbeats 4000000
set_option maxRecDepth 100000
namespace Go.Proofs.YtpkipghjohomcaaGreatDoor
open Go.RowKit List
section
variable (b bb:Nat) (T:List Tok) (D n:Nat)
theorem Ws (hC:dC T) (hD:D<=200) (hn:n<=D) (hG:cO b bb T D n (fun G=>isQ T [40] G=true) 173 (Np T (NT T D n))) (hM:cO b bb T D n (fun G=>G.e=0/\(az T G).kind=1) 174 (eV T (NT T D n))):cO b bb T D n (fun _=>True) 172 (cQ T (NT T D n)):=by
 intro G ao vn ap w hP h
 have J:=zh hC;have uF:=zh hP
 have Zf:=zh hG
 have Rm:=zh hM
 have m:=zh (KX.start h)
 have dQ:=zh h.few
 have HA:=zh (cD.nil ao G)
 clear h hC hP hD hn hG hM
 go_enter Tryz.func172,Tryz.ntmps172
 go_wp2_with fail
 refine(m.kind 3).mono ?_
 rintro L w1 ⟨rfl,I⟩
 have m:=zh I
 by_cases uG:G.e=0/\(az T G).kind=3
 ·rw [zd uG]
  have A:=zh (show(az T G).kind≠5/\G.e=0 from⟨by omega,uG.1⟩);have lk:=zh uG;clear uG I
  go_wp2_with fail
  have U:=m
  have m:=zh m.drew
  go_region_held3 (fun w'=>w'.cell? ⟨b,0,none⟩=some (.pointer (some ⟨bb,0,none⟩))) (with_reducible first | exact m.out.cell | exact(m.out.alloc _).cell | exact(U.out.alloc _).drew.cell | exact((m.out.alloc _).alloc _).cell | exact((U.out.alloc _).alloc _).drew.cell | exact(((m.out.alloc _).alloc _).alloc _).cell)
   (first
    | (go_at_call 79;(with_reducible first | refine(m.out.take J.out A.out.1 A.out.2).mono ?_ | refine((m.out.strs1 _ _).take J.out A.out.1 A.out.2).mono ?_ | refine((U.out.strs1 _ _).drew.take J.out A.out.1 A.out.2).mono ?_ | refine(((m.out.strs1 _ _).strs1 _ _).take J.out A.out.1 A.out.2).mono ?_ | refine(((U.out.strs1 _ _).strs1 _ _).drew.take J.out A.out.1 A.out.2).mono ?_);rintro L w9 ⟨v9,N9,dj,rfl,B,E,H⟩;have m:=zh B;have HD:=zh (aZ.app HA.out E H);have HA:=zh HD.out.out;clear B E H)
    | (go_at_call 50;have lR:=zh (HD.weak (j:=0+1) (by decide));refine(KX.node (k:=0) (kind:=15) (m.ints1 _ ) ?_ J.len lR.out ?_ dQ.out ?_).mono ?_;exact Yu ..;rfl;simp;rintro L w9 ⟨v9,N9,dj,rfl,B,E⟩;have m:=zh B;have HZ:=zh E;clear B E))
  all_goals
   have O:=zh (KX.fin HZ m (fun he=>absurd A.2 he) (r':=(cQ T (NT T D n)) G) (by rw [Ms lk.out];exact Eqv.refl _))
   go_wp2_with fail
   go_ret
   exact O
 ·rw [VW uG]
  have lk:=zh uG;clear uG I
  go_wp2_with fail
  refine(KX.at (ws:=[[116,114,117,101],[102,97,108,115,101]]) (m.strs2 _ _ _) (Yu ..) (by decide)).mono ?_
  rintro L w2 ⟨rfl,I⟩
  have m:=zh I.nils
  obtain⟨b2,R⟩:=zx (atQ T [[116,114,117,101],[102,97,108,115,101]] G)
  rw [R]
  have oY:Hid ((isQ T [116,114,117,101] G || isQ T [102,97,108,115,101] G)=b2):=zh (by rw [<-R,jW J.out (by decide)];simp)
  clear I R
  cases b2
  ·skip
   have d0:=m.cell;have d7:=m.innc
   go_wp2_with fail
   refine(KX.at (ws:=[[114,101,115]]) (m.strs1 _ _) (Yu ..) (by decide)).mono ?_
   rintro L w3 ⟨rfl,I⟩
   have m:=zh I.nils
   obtain⟨b3,R⟩:=zx (isQ T [114,101,115] G)
   rw [at_one J.out (by decide),R]
   have FF:=zh R
   clear I R d0 d7
   have d7:=m.innc
   obtain⟨ak,hI⟩:=zx G.inn
   have HI:=zh hI
   rw [hI] at d7
   clear hI
   cases b3
   ·skip
    go_wp2_with fail
    refine(KX.at (ws:=[[40]]) (m.strs1 _ _) (Yu ..) (by decide)).mono ?_
    rintro L w4 ⟨rfl,I⟩
    have m:=zh (I.nils)
    obtain⟨b4,R⟩:=zx (isQ T [40] G)
    rw [at_one J.out (by decide),R]
    have Ty:=zh R
    clear I R
    cases b4
    ·skip
     go_wp2_with fail
     refine(m.kind 1).mono ?_
     rintro L w5 ⟨rfl,I⟩
     have m:=zh I
     by_cases Y:G.e=0/\(az T G).kind=1
     ·rw [zd Y]
      have Z:=zh Y;clear Y I
      go_wp2_with fail
      refine(m.sub Rm Z).mono ?_
      rintro L w9 ⟨v9,N9,dj,rfl,B,E,H⟩
      have O:=zh (KX.fin E B H (r':=(cQ T (NT T D n)) G) (by rw [zw Z.1 lk.out oY.out (fun h=>by rw [FF.out] at h;cases h.2) Ty.out Z.2];exact Eqv.refl _))
      clear B E H
      go_wp2_with fail
      go_ret
      exact O
     ·rw [VW Y]
      have Z:=zh Y;clear Y I
      go_wp2_with fail
      refine(m.fail 22 (by decide)).mono ?_
      rintro L w9 ⟨v9,N9,dj,rfl,B,E,H⟩
      have O:=zh (KX.fin E B H (r':=(cQ T (NT T D n)) G) (zJ lk oY (fun h=>by rw [FF.out] at h;cases h.2) Ty Z))
      clear B E H
      go_wp2_with fail
      go_ret
      exact O
    ·skip
     go_wp2_with fail
     refine(m.sub Zf Ty).mono ?_
     rintro L w9 ⟨v9,N9,dj,rfl,B,E,H⟩
     have O:=zh (KX.fin E B H (r':=(cQ T (NT T D n)) G) (by rw [Cw lk.out oY.out (fun h=>by rw [FF.out] at h;cases h.2) Ty.out];exact Eqv.refl _))
     clear B E H
     go_wp2_with fail
     go_ret
     exact O
   ·cases ak
    ·skip
     go_wp2_with fail
     refine(KX.at (ws:=[[40]]) (m.strs1 _ _) (Yu ..) (by decide)).mono ?_
     rintro L w4 ⟨rfl,I⟩
     have m:=zh (I.nils)
     obtain⟨b4,R⟩:=zx (isQ T [40] G)
     rw [at_one J.out (by decide),R]
     have Ty:=zh R
     clear I R
     cases b4
     ·skip
      go_wp2_with fail
      refine(m.kind 1).mono ?_
      rintro L w5 ⟨rfl,I⟩
      have m:=zh I
      by_cases Y:G.e=0/\(az T G).kind=1
      ·rw [zd Y]
       have Z:=zh Y;clear Y I
       go_wp2_with fail
       refine(m.sub Rm Z).mono ?_
       rintro L w9 ⟨v9,N9,dj,rfl,B,E,H⟩
       have O:=zh (KX.fin E B H (r':=(cQ T (NT T D n)) G) (by rw [zw Z.1 lk.out oY.out (fun h=>by rw [HI.out] at h;cases h.1) Ty.out Z.2];exact Eqv.refl _))
       clear B E H
       go_wp2_with fail
       go_ret
       exact O
      ·rw [VW Y]
       have Z:=zh Y;clear Y I
       go_wp2_with fail
       refine(m.fail 22 (by decide)).mono ?_
       rintro L w9 ⟨v9,N9,dj,rfl,B,E,H⟩
       have O:=zh (KX.fin E B H (r':=(cQ T (NT T D n)) G) (zJ lk oY (fun h=>by rw [HI.out] at h;cases h.1) Ty Z))
       clear B E H
       go_wp2_with fail
       go_ret
       exact O
     ·skip
      go_wp2_with fail
      refine(m.sub Zf Ty).mono ?_
      rintro L w9 ⟨v9,N9,dj,rfl,B,E,H⟩
      have O:=zh (KX.fin E B H (r':=(cQ T (NT T D n)) G) (by rw [Cw lk.out oY.out (fun h=>by rw [HI.out] at h;cases h.1) Ty.out];exact Eqv.refl _))
      clear B E H
      go_wp2_with fail
      go_ret
      exact O
    ·skip
     have A:=zh (ah FF)
     go_wp2_with fail
     have U:=m
     have m:=zh m.drew
     go_region_held3 (fun w'=>w'.cell? ⟨b,0,none⟩=some (.pointer (some ⟨bb,0,none⟩))) (with_reducible first | exact m.out.cell | exact(m.out.alloc _).cell | exact(U.out.alloc _).drew.cell | exact((m.out.alloc _).alloc _).cell | exact((U.out.alloc _).alloc _).drew.cell | exact(((m.out.alloc _).alloc _).alloc _).cell)
      (first
       | (go_at_call 79;(with_reducible first | refine(m.out.take J.out A.out.1 A.out.2).mono ?_ | refine((m.out.strs1 _ _).take J.out A.out.1 A.out.2).mono ?_ | refine((U.out.strs1 _ _).drew.take J.out A.out.1 A.out.2).mono ?_ | refine(((m.out.strs1 _ _).strs1 _ _).take J.out A.out.1 A.out.2).mono ?_ | refine(((U.out.strs1 _ _).strs1 _ _).drew.take J.out A.out.1 A.out.2).mono ?_);rintro L w9 ⟨v9,N9,dj,rfl,B,E,H⟩;have m:=zh B;have HD:=zh (aZ.app HA.out E H);have HA:=zh HD.out.out;clear B E H)
       | (go_at_call 50;have lR:=zh (HD.weak (j:=0+1) (by decide));refine(KX.node (k:=0) (kind:=17) (m.ints1 _ ) ?_ J.len lR.out ?_ dQ.out ?_).mono ?_;exact Yu ..;rfl;simp;rintro L w9 ⟨v9,N9,dj,rfl,B,E⟩;have m:=zh B;have HZ:=zh E;clear B E))
     all_goals
      have O:=zh (KX.fin HZ m (fun he=>absurd A.2 he) (r':=(cQ T (NT T D n)) G) (by rw [Po A.2 lk.out oY.out ⟨HI,FF⟩];exact Eqv.refl _))
      go_wp2_with fail
      go_ret
      exact O
  ·skip
   have A:=zh (show(az T G).kind≠5/\G.e=0 from(by have h9:=oY.out;rcases Bool.or_eq_true_iff.1 h9 with h | h<;>exact ah h))
   go_wp2_with fail
   have U:=m
   have m:=zh m.drew
   go_region_held3 (fun w'=>w'.cell? ⟨b,0,none⟩=some (.pointer (some ⟨bb,0,none⟩))) (with_reducible first | exact m.out.cell | exact(m.out.alloc _).cell | exact(U.out.alloc _).drew.cell | exact((m.out.alloc _).alloc _).cell | exact((U.out.alloc _).alloc _).drew.cell | exact(((m.out.alloc _).alloc _).alloc _).cell)
    (first
     | (go_at_call 79;(with_reducible first | refine(m.out.take J.out A.out.1 A.out.2).mono ?_ | refine((m.out.strs1 _ _).take J.out A.out.1 A.out.2).mono ?_ | refine((U.out.strs1 _ _).drew.take J.out A.out.1 A.out.2).mono ?_ | refine(((m.out.strs1 _ _).strs1 _ _).take J.out A.out.1 A.out.2).mono ?_ | refine(((U.out.strs1 _ _).strs1 _ _).drew.take J.out A.out.1 A.out.2).mono ?_);rintro L w9 ⟨v9,N9,dj,rfl,B,E,H⟩;have m:=zh B;have HD:=zh (aZ.app HA.out E H);have HA:=zh HD.out.out;clear B E H)
     | (go_at_call 50;have lR:=zh (HD.weak (j:=0+1) (by decide));refine(KX.node (k:=0) (kind:=16) (m.ints1 _ ) ?_ J.len lR.out ?_ dQ.out ?_).mono ?_;exact Yu ..;rfl;simp;rintro L w9 ⟨v9,N9,dj,rfl,B,E⟩;have m:=zh B;have HZ:=zh E;clear B E))
   all_goals
    have O:=zh (KX.fin HZ m (fun he=>absurd A.2 he) (r':=(cQ T (NT T D n)) G) (by rw [EP lk.out oY.out A.2];exact Eqv.refl _))
    go_wp2_with fail
    go_ret
    exact O
end
end Go.Proofs.YtpkipghjohomcaaGreatDoor
namespace Go.Proofs.YtpkipghjohomcaaGreatDoor
open Go
section
variable {P:Program} {ops:Array Oper} {Q:Exit->Act->World->Prop} {md:Region.Mode} {S:World->Prop} {z:Nat}
def wpG (P:Program) (md:Region.Mode) (ops:Array Oper) (Q:Exit->Act->World->Prop) (S:World->Prop) (z:Nat):Nat->Array Bool->Act->World->Prop
 | 0,L,a,w=>Region.ready md ops L = []/\Q .normal a w
 | n+1,L,a,w=>(Region.ready md ops L = []->Q .normal a w)/\∀m∈Region.ready md ops L,wpOp P ops Q m (fun B A=>(m≠z->S A)/\wpG P md ops Q S z n (L.setIfInBounds m true) B A) a w
theorem Hd:∀(n:Nat) (L:Array Bool) (a:Act) (w:World),wpG P md ops Q S z n L a w->wpAny P md ops Q n L a w
 | 0,_,_,_,h=>h
 | n+1,_,_,_,h=>⟨h.1,fun B A=>wpOp_mono (fun m G E=>Hd n _ m G E.2) (h.2 B A)⟩
theorem JG {L:Array Bool} {i:Nat} (R:Region.waitsFor md ops z i=true) (I:L.getD i true=false):z∉Region.ready md ops L:=fun h=>by
 obtain⟨Y,O,B,G,E,H⟩:=Region.waitsFor_spec R
 obtain⟨-,U,J,Z⟩:=mem_ready.1 h
 obtain rfl:U=Y:=Option.some.inj (J.symm.trans O)
 have m:=Z B G E
 rw [H] at m
 have A:=getD_both I
 rw [m] at A
 cases A
theorem Jr {i:Nat} {oi:Oper} {v:Value} (U:ops[i]? = some oi) (ap:∀(j:Nat) (o:Oper) cs b,ops[j]? = some o->o.op≠.select cs b) (hz:Region.waitsFor md ops z i=true)
  (hQ:∀c a w,Q (.panic c) (a.put oi.dst v) w->Q (.panic c) a w):∀(n:Nat) (L:Array Bool) (a:Act) (w:World),
   (∀j B,ops[j]? = some B->j≠i->L.getD j true=false->(∀e∈B.after,Region.binds md e=true->e.on≠i)->oi.apart ops B=true)->
   i∈Region.ready md ops L->YieldsIf P ops S oi v a->S w->wpG P md ops Q S z n (L.setIfInBounds i true) (a.put oi.dst v) w->wpG P md ops Q S z (n+1) L a w:=by
 intro n
 induction n with
 | zero=>
   intro L a w _ A O I H
   refine⟨fun E=>(by rw [E] at A;cases A),fun j J=>?_⟩
   by_cases m:j=i
   ·subst m;exact O.wpOp U I ⟨fun _=>I,H⟩
   ·have G:=ready_mono J m
    rw [H.1] at G;cases G
 | succ n ih=>
   intro L a w jy A O I H
   refine⟨fun E=>(by rw [E] at A;cases A),fun j J=>?_⟩
   by_cases m:j=i
   ·subst m;exact O.wpOp U I ⟨fun _=>I,H⟩
   ·have Zb:=(mem_ready.1 A).1
    have ao:j≠z:=fun e=>JG hz Zb (e▸J)
    obtain⟨Z,B,Y,yo⟩:=mem_ready.1 J
    have sH:∀e∈B.after,Region.binds md e=true->e.on≠i:=fun e he hb E=>by
     have G:=yo e he hb
     rw [E,getD_both Zb] at G
     cases G
    have au:=wpOp_putIf Y (jy j B Y m Z sH) (fun cs b=>ap i oi cs b U) (fun cs b=>ap j B cs b Y) hQ O (H.2 j (ready_mono J m))
    refine wpOp_mono (fun a' w' R=>⟨fun _=>R.2.1 ao,ih (L.setIfInBounds j true) a' w' (fun aq om hm av ax zo=>jy aq om hm av ?_ zo) (ready_mono A (Ne.symm m)) R.1 (R.2.1 ao) ?_⟩) au
    ·by_cases ak:j=aq
     ·subst ak;exact Z
     ·rwa [getD_set_ne true ak] at ax
    ·have hc:=Array.setIfInBounds_comm (xs:=L) true true m
     rw [hc];exact R.2.2
theorem aF {i:Nat} {oi:Oper} {v:Value} {n:Nat} {L:Array Bool} {a:Act} {w:World} (m:ops[i]? = some oi) (H:Region.noSelect ops=true) (E:Region.free md ops L i=true) (G:(Region.ready md ops L).contains i=true) (O:Region.waitsFor md ops z i=true)
  (A:∀c a w,Q (.panic c) (a.put oi.dst v) w->Q (.panic c) a w) (I:Region.wanted oi (yielded ops a.tmps)=true) (J:∀w,S w->(execOp a.eval oi).run P w=.ok (.value v) w) (B:S w)
  (h:wpG P md ops Q S z n (L.setIfInBounds i true) (a.put oi.dst v) w):wpG P md ops Q S z (n+1) L a w:=
 Jr m (Region.noSelect_spec H) O A n L a w (Region.free_spec m E) (by simpa using G) (.inl ⟨I,J⟩) B h
theorem eQ {i:Nat} {o:Oper} {n:Nat} {L:Array Bool} {a:Act} {w:World} (G:Region.ready md ops L = [i]) (J:ops[i]? = some o)
  (h:∀K:Act->World->Prop,Shut (∀a' m,(i≠z->S m)->((i≠z->S m)->wpG P md ops Q S z n (L.setIfInBounds i true) a' m)->K a' m)->if Region.wanted o (yielded ops a.tmps)=true then Oper.wp P o a w K Q else K (a.put o.dst undef) w):wpG P md ops Q S z (n+1) L a w:=
 ⟨fun A=>(by rw [G] at A;cases A),fun O E=>by
  rw [G] at E
  obtain rfl:O=i:=by simpa using E
  exact wpOp_step J (fun K I=>h K (fun a' m B H=>I a' m ⟨B,H B⟩))⟩
theorem xe {n:Nat} {L:Array Bool} {a:Act} {w:World} (A:Region.ready md ops L = []) (h:Q .normal a w):wpG P md ops Q S z n L a w:=by
 cases n with
 | zero=>exact⟨A,h⟩
 | succ n=>exact⟨fun _=>h,fun B m=>(by rw [A] at m;cases m)⟩
theorem mM {id:Nat} {a:Act} {w:World} (A:P.follows .mixedOrders=true) (m:S w.drew)
  (h:S w.drew->wpG P .any ops Q S z ops.size (Array.replicate ops.size false) a w.drew):(Code.region id ops true).wp P Q a w:=
 wp_region_any A (Hd _ _ _ _ (h m))
end
end Go.Proofs.YtpkipghjohomcaaGreatDoor
