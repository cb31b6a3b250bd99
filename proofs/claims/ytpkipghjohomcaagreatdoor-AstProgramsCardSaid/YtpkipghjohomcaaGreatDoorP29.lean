/- Lemmas. -/
import Derived.Test.YtpkipghjohomcaaGreatDoorP17
import Derived.Test.YtpkipghjohomcaaGreatDoorP27
import Derived.Test.YtpkipghjohomcaaGreatDoorP28
import Derived.Test.YtpkipghjohomcaaGreatDoorP42
set_option linter.unusedVariables false
set_option linter.unusedSimpArgs false
namespace Go.Proofs.YtpkipghjohomcaaGreatDoor
theorem GW {T:List Tok} {k:Nat} {l:List Tr} (h:WE T (.nd k l)):7<=k:=by
 simp only [WE] at h
 cases h.1<;>omega
theorem SC {T:List Tok} {u:Tr} (B:isN u=true) (E:WE T u):OkK T u/\∀A,u≠.nd 4 A:=by
 cases u with
 | lf G=>simp [isN] at B
 | nd H I=>
   have:=GW E
   exact⟨⟨fun m=>by omega,fun m=>by omega⟩,fun A m=>by injection m with m;omega⟩
theorem vf {T:List Tok} {l:List Tr} (h:ShT T l):∀t∈l,OkK T t/\∀B,t≠.nd 4 B:=by
 cases h with
 | mk O E R U Y G=>
   intro t A
   rcases List.mem_cons.1 A with rfl | A
   ·exact⟨trivial,fun B m=>by cases m⟩
   rcases List.mem_cons.1 A with rfl | A
   ·exact⟨⟨fun _=>⟨E,rfl⟩,fun m=>by omega⟩,fun B m=>by injection m with m;omega⟩
   cases G with
   | no=>simp at A
   | yes J L m H I=>
     simp at A;subst A
     exact⟨⟨fun m=>by omega,fun _=>⟨J,m,L,rfl,H,I⟩⟩,fun B m=>by injection m with m;omega⟩
theorem MO {T:List Tok} {p:Tr} (h:ShP T p):OkK T p/\∀B,p=.nd 4 B->∀t∈B,OkK T t:=by
 cases h with
 | mk I H G E=>
   refine⟨⟨fun m=>by omega,fun m=>by omega⟩,fun B m t A=>?_⟩
   injection m with _ m
   subst m
   rcases List.mem_cons.1 A with rfl | A
   ·exact trivial
   ·exact(vf E t A).1
theorem R9 {T:List Tok} {l:List Tr} (h:tc T l):∀t∈l,OkK T t/\∀B,t=.nd 4 B->∀t∈B,OkK T t:=by
 induction h with
 | one H A=>intro t m;simp at m;subst m;exact MO A
 | more l I H _ J A G=>
   intro t m
   rcases List.mem_append.1 m with m | m
   ·rcases List.mem_append.1 m with m | m
    ·exact G t m
    ·simp at m;subst m;exact⟨trivial,fun B E=>by cases E⟩
   ·simp at m;subst m;exact MO A
theorem MY {T:List Tok} {l:List Tr} (h:ShD T (.nd 3 l)):(∀t∈l,OkK T t)/\(∀B,Tr.nd 4 B∈l->∀t∈B,OkK T t)/\(∃i0,l[0]? = some (.lf i0))/\(∃u,l[l.length - 2]? = some u/\isN u=true/\WE T u)/\2<=l.length:=by
 cases h with
 | mk O G J L R I Y U H m KR YC Sa Qa eM Z Sy ap QT eg cB Uq=>
   have ak:∀t∈O++[Tr.lf G,.lf J,.lf L]++R++[.lf I]++Y++[.lf U]++[H]++[.lf m],OkK T t/\∀B,t=.nd 4 B->∀t∈B,OkK T t:=fun t A=>by
    simp only [List.mem_append] at A
    rcases A with ((((((A | A) | A) | A) | A) | A) | A) | A
    ·rcases KR with rfl | ⟨ao,rfl,-⟩
     ·simp at A
     ·simp at A;subst A;exact⟨trivial,fun B E=>by cases E⟩
    ·simp at A;rcases A with rfl | rfl | rfl<;>exact⟨trivial,fun B E=>by cases E⟩
    ·rcases Z with rfl | Z
     ·simp at A
     ·exact R9 Z t A
    ·simp at A;subst A;exact⟨trivial,fun B E=>by cases E⟩
    ·have h:=vf ap t A
     exact⟨h.1,fun B E=>absurd E (h.2 B)⟩
    ·simp at A;subst A;exact⟨trivial,fun B E=>by cases E⟩
    ·simp at A;subst A
     have h:=SC eg cB
     exact⟨h.1,fun B E=>absurd E (h.2 B)⟩
    ·simp at A;subst A;exact⟨trivial,fun B E=>by cases E⟩
   refine⟨fun t A=>(ak t A).1,fun B hl=>(ak _ hl).2 B rfl,?_,⟨H,?_,eg,cB⟩,by simp;omega⟩
   ·rcases KR with rfl | ⟨ao,rfl,-⟩
    ·exact⟨G,by simp⟩
    ·exact⟨ao,by simp⟩
   ·have E:O++[Tr.lf G,.lf J,.lf L]++R++[.lf I]++Y++[.lf U]++[H]++[.lf m]=(O++[Tr.lf G,.lf J,.lf L]++R++[.lf I]++Y++[.lf U])++[H,.lf m]:=by simp
    rw [E]
    generalize O++[Tr.lf G,.lf J,.lf L]++R++[.lf I]++Y++[.lf U]=aq
    rw [Q2,List.getElem?_append_right (by simp)]
    simp
set_option maxHeartbeats 8000000
set_option maxRecDepth 100000
open Go.RowKit List Nat
def Ng (T:List Tok) (s:St) (N:List Nd) (v:Int) (A:Nat) (m:List Nd):Prop:=
 ((aM T 5 s).2.e=0->m=N++[⟨19,(s.i:Int),[]⟩]/\v=(N.length:Int)/\A=s.i+1/\(aM T 5 s).1 = [.lf s.i])/\((aM T 5 s).2.e≠0->v = -1/\m=N/\A=s.i)
def L5 (b bb:Nat) (T:List Tok) (D n:Nat) (s:St) (N:List Nd) (vn:Value) (A:Nat->Prop) (w:World) (e:Ending) (w':World):Prop:=
 ∃(G:Int) (E:Nat) (m:List Nd) (B:Value),e=.returned (.int .i64 G)/\XAt w' b bb T D n (aM T 5 s).2 E m B A/\Step b bb vn w B w'/\Ng T s N G E m
def nY (b bb:Nat) (T:List Tok) (D kind:Nat) (s:St) (r:RT) (N:List Nd) (vn:Value) (A:Nat->Prop) (w:World) (e:Ending) (w':World):Prop:=
 ∃(E:Int) (u:Nat) (m:List Nd) (B:Value),e=.returned (.int .i64 E)/\XAt w' b bb T D 0 r.2 u m B A/\Step b bb vn w B w'/\u<=T.length/\(r.2.e=0->m=N++eR N.length [.nd kind r.1])
section
variable (b bb:Nat) (T:List Tok) (D n:Nat)
theorem Q0 (J:dC T) (s:St) (N:List Nd) (vn:Value) (A:Nat->Prop) (w:World) (h:XAt w b bb T D n s s.i N vn A):
  Calls Tryz.prog 51 #[.pointer (some ⟨b,0,none⟩),.int .i64 5] w (L5 b bb T D n s N vn A w):=by
 have G:Hid (Calls Tryz.prog 85 #[.pointer (some ⟨b,0,none⟩),.int .i64 5] w (bp (.bool (decide (s.e=0/\(az T s).kind=5))) w)):=zh (uY b bb T D n s s.i N vn A 5 w h)
 have HF:=zh (fun w h=>kR b bb T D n 22 s s.i N vn A w h)
 have HX:=zh h
 have E:Hid (aM T 5 s=if s.e=0/\(az T s).kind=5 then ae T s else ([],aH T 22 s)):=zh rfl
 have jw:=zh (fun w h=>OL b bb T D n J.len J.short J.ends s N vn A w h)
 clear h J
 by_cases m:s.e=0/\(az T s).kind=5
 ·rw [zd m] at G
  rw [if_pos m] at E
  have HC:=zh m
  clear m
  go_enter Tryz.func51,Tryz.ntmps51
  go_wp2_with fail
  refine G.mono ?_
  rintro Y w1 ⟨rfl,B⟩
  have U:=zh (HX.kept B);have O:=zh B
  clear B G
  go_wp2_with fail
  refine(jw _ U).mono ?_
  rintro Y Z ⟨cC,rfl,h1,H⟩
  have R:Hid (L5 b bb T D n s N vn A w (.returned (.int .i64 (N.length:Int))) Z):=zh (by
   refine⟨_,s.i+1,_,cC,rfl,by rw [E.out];exact h1,(Step.of O).trans H,?_,?_⟩
   ·intro _;exact⟨rfl,rfl,rfl,by rw [E.out];rfl⟩
   ·intro I;rw [E.out] at I;exact absurd (n7 T HC.1) I)
  clear h1 H
  go_wp2_with fail
  go_ret
  exact R
 ·rw [VW m] at G
  rw [if_neg m] at E
  clear m
  go_enter Tryz.func51,Tryz.ntmps51
  go_wp2_with fail
  refine G.mono ?_
  rintro Y w1 ⟨rfl,B⟩
  have U:=zh (HX.kept B);have O:=zh B
  clear B G
  go_wp2_with fail
  refine(HF _ U).mono ?_
  rintro Y Z ⟨rfl,H,ak⟩
  have R:Hid (L5 b bb T D n s N vn A w (.returned (.int .i64 (-1))) Z):=zh (by
   refine⟨-1,s.i,N,vn,rfl,by rw [E.out];exact H,(Step.of O).trans ak,?_,?_⟩
   ·intro I;rw [E.out] at I;exact absurd I (df T (by decide) s)
   ·intro _;exact⟨rfl,rfl,rfl⟩)
  clear H ak
  go_wp2_with fail
  go_ret
  exact R
end
def E6 (m:List Nd) (r:RT) (N:List Nd) (A:List Int):Prop:=(r.2.e=0->N=m++eR m.length r.1/\A=jB m.length r.1)/\(r.2.e≠0->(-1:Int)∈A)
section
variable {b bb:Nat} {T:List Tok} {D n:Nat} {A0:Nat->Prop} {bt:Value} {w0 w w':World} {s:St} {u:Nat} {N:List Nd} {vn:Value} {L:List (Value×Th)}
theorem E6.of {k:Nat} {A B:List Nd} {s0:St} {a:RT} {I:List Int} {v:Int} {u':Nat} (h:cD k A s0 a N I) (H:Ng T a.2 N v u' B):E6 A (a.1++(aM T 5 a.2).1,(aM T 5 a.2).2) B (I++[v]):=by
 refine⟨fun m=>?_,fun m=>?_⟩
 ·have O:a.2.e=0:=by
   rcases eq_zero_or_pos a.2.e with G | G
   ·exact G
   ·exact absurd m (by show ¬(aM T 5 a.2).2.e=0;rw [(bY T 5 a.2).dead (by omega)];omega)
  obtain⟨E,J,-⟩:=h.1 O
  obtain⟨R,U,f3,Y⟩:=H.1 m
  have Z:N.length=A.length+bK a.1:=by rw [E,Q2,ia]
  rw [Y,qT,tz,R,U,<-J]
  refine⟨?_,?_⟩
  ·rw [<-append_assoc,<-E];simp [eR,post]
  ·rw [Z];simp [jB,szR]
 ·rw [(H.2 m).1];exact mem_append_right _ (mem_singleton.2 rfl)
theorem KX.endOf (hk:KX b bb T D n A0 bt w0 w s s.i N vn L) (hC:dC T):
  Calls Tryz.prog 51 #[.pointer (some ⟨b,0,none⟩),.int .i64 5] w fun G w'=>∃(v:Int) (B:Nat) (m:List Nd) (E:Value),G=.returned (.int .i64 v)/\KX b bb T D n A0 bt w0 w' (aM T 5 s).2 B m E L/\Ng T s N v B m:=by
 obtain⟨A,H,R,U,Y,Z⟩:=hk
 refine(Q0 b bb T D n hC s N vn A w H).mono ?_
 rintro G w' ⟨v,B,m,E,rfl,I,J,O⟩
 exact⟨v,B,m,E,rfl,KX.go R U Y Z H.lt I J,O⟩
theorem KX.nodeEnd {kind:Nat} {v:Value} {m:List Int} {H:List Nd} {r:RT} (J:KX b bb T D n A0 bt w0 w r.2 u N vn L) (hm:(v,Th.ints m)∈L) (hT:T.length<=40000) (hu:u<=T.length) (Z:E6 H r N m) (hl:m.length<=30000) (hr:r.2.e=0->N.length+1<=2*u):
  Calls Tryz.prog 50 #[.pointer (some ⟨bb,0,none⟩),.int .i64 (kind:Int),v] w fun B w'=>∃(x:Int) (O:List Nd) (I:Value),B=.returned (.int .i64 x)/\KX b bb T D n A0 bt w0 w' r.2 u O I L/\(r.2.e=0->O=H++eR H.length [.nd kind r.1]):=by
 obtain⟨ak,R,rfl,hv,-,-⟩:=J.list hm
 have IU:=J
 obtain⟨ao,A,h2,h3,h4,h5⟩:=J
 have Wy:=A.few
 by_cases E:r.2.e=0
 ·obtain⟨U,Y⟩:=Z.1 E
  have eM:okB N.length m=true:=wD fun ap G=>by
   rw [Y] at G
   have:=AC _ _ _ G
   rw [U,Q2,ia];omega
  refine(CZ ao bb T u N vn (kind:Int) m ak R w (by omega) (by omega) A.bld A.new hv eM).mono ?_
  rintro B w' ⟨rfl,I,g1,g2,g3⟩
  obtain⟨hx,Pb⟩:=A.bump g1 g2 g3 (by rw [Q2];exact hr E)
  refine⟨_,_,I,rfl,KX.go h2 h3 h4 h5 A.lt hx Pb,fun _=>?_⟩
  simp only [eR,post,append_nil]
  rw [<-append_assoc,<-U,Y]
 ·have sH:okB N.length m=false:=by
   obtain⟨ap,G⟩:=getElem?_of_mem (Z.2 E)
   exact n4 G (by omega)
  refine(yI bb T u N vn (kind:Int) m ak R w (by omega) (by omega) A.bld.bld hv sH).mono ?_
  rintro B w' ⟨rfl,hg⟩
  exact⟨-1,N,vn,rfl,IU.kept hg,fun B=>absurd B E⟩
end
theorem qc {T:List Tok} {c:St->Bool} {sub:St->RT} {most:Nat}:∀f k (l:List Tr) (s:St),rowP T c sub most f k (l,s)=(l++(rowP T c sub most f k ([],s)).1,(rowP T c sub most f k ([],s)).2)
 | 0,k,l,s=>by simp [rowP]
 | f+1,k,l,s=>by
   unfold rowP
   split
   ·split
    ·simp
    ·show rowP T c sub most f (k+1) (l++(sub s).1,(sub s).2)=_
     rw [qc f (k+1) (l++(sub s).1),show(([],s):RT).1++(sub s).1=(sub s).1 from rfl,qc f (k+1) (sub s).1]
     simp
   ·simp
theorem IK {T:List Tok} (m:dC T):atQ T [[105,109,112,111,114,116]]=isQ T [105,109,112,111,114,116]:=funext fun s=>at_one m (by decide) s
theorem yU {T:List Tok} {sub:St->RT} (m:∀s,s.inn=false->(sub s).2.inn=false):∀f k (r:RT),r.2.inn=false->(bT T sub f k r).2.inn=false
 | 0,k,r,h=>h
 | f+1,k,r,h=>by
   unfold bT
   split
   ·rename_i B
    refine yU m f _ _ ?_
    have A:(ae T r.2).2.inn=false:=(aA T (ah B).2).inn.trans h
    show(sub (if k=8 then aH T 15 (ae T r.2).2 else (ae T r.2).2)).2.inn=false
    refine m _ ?_
    split
    ·exact(eS T 15 (ae T r.2).2 []).inn.trans A
    ·exact A
   ·exact h
theorem Tp {T:List Tok} {D:Nat} (s:St) (h:s.inn=false):(jg T (NT T D 0).expr s).2.inn=false:=by
 have H:(cV T s).2.inn=false:=by
  unfold cV
  split
  ·rename_i I;exact(aA T (ah I).2).inn.trans h
  ·exact h
 have A:(dJ T (cV T s)).2.inn=false:=by
  show(an T [40] (aM T 1 (an T [102,117,110] (cV T s).2).2).2).2.inn=false
  rw [(aB T [40] _).inn,(bY T 1 _).inn,(aB T [102,117,110] _).inn];exact H
 have B:(eH T (NT T D 0).expr (dJ T (cV T s))).2.inn=false:=by
  generalize dJ T (cV T s)=m at A
  have O:(fI T (NT T D 0).expr m.2).2.inn=false:=by
   unfold fI
   exact yU (T:=T) (sub:=fD T (NT T D 0).expr) (fun s h=>qB (T:=T) (D:=D) s h) (bG T (fD T (NT T D 0).expr m.2).2) 1 (fD T (NT T D 0).expr m.2) (qB (T:=T) (D:=D) m.2 A)
  unfold eH
  split
  ·exact O
  ·exact A
 generalize J:eH T (NT T D 0).expr (dJ T (cV T s))=E at B
 have G:(jg T (NT T D 0).expr s).2=(an T [59] ((NT T D 0).expr (an T [61] (cj T (NT T D 0).expr (an T [41] E.2).2).2).2).2).2:=by rw [<-J];rfl
 rw [G,(aB T [59] _).inn,((gl T D (D - 0)).expr _).inn,(aB T [61] _).inn]
 refine oE (T:=T) (D:=D) _ ?_
 rw [(aB T [41] _).inn];exact B
theorem Ha {T:List Tok} (m:dC T):atQ T [[112,117,98],[102,117,110]]=ki T:=funext fun s=>by rw [jW m (by decide)];simp [ki]
section
variable (T:List Tok) (D:Nat)
def il (s:St):RT:=rowP T (isQ T [105,109,112,111,114,116]) (imT T) 16 (bG T s) 0 ([],s)
def ip (s:St):RT:=rowP T (ki T) (jg T (NT T D 0).expr) 64 (bG T s) 0 ([],s)
def tX (s:St):RT:=((il T s).1++(ip T D (il T s).2).1++(aM T 5 (ip T D (il T s).2).2).1,(aM T 5 (ip T D (il T s).2).2).2)
theorem wi {s:St} (h:s.e≠0):ki T s=false:=by unfold ki;rw [mi h,mi h];rfl
theorem Fv {s:St} (h:s.e≠0):ip T D s=([],s):=zr (wi T h) _
theorem JC (s:St):Eqv (tX T D s) (bE T (NT T D 0).expr s):=by
 have H:Eqv (il T s) (aG T ([],s)).2:=sx (fun aq h=>NZ h) _ _ _
 have ao:=iA T (c:=isQ T [105,109,112,111,114,116]) (stepT:=fB T) (most:=16) (bG T s) 0 ([],s)
 have ak:(aG T ([],s)).1=false->(aG T ([],s)).2.2.e≠0:=ao
 unfold bE
 generalize aG T ([],s)=I at *
 by_cases A:I.2.2.e=0
 ·have G:I.1=true:=by
   cases h:I.1
   ·exact absurd A (ak h)
   ·rfl
  have eA:il T s=I.2:=Prod.ext (H.2 A) H.1
  have Y:Eqv (rowP T (ki T) (jg T (NT T D 0).expr) 64 (bG T I.2.2) 0 I.2) (dk T (NT T D 0).expr I.2).2:=sx (fun aq h=>rfl) _ _ _
  have ap:(dk T (NT T D 0).expr I.2).1=false->(dk T (NT T D 0).expr I.2).2.2.e≠0:=iA T (c:=ki T) (stepT:=jh T (NT T D 0).expr) (most:=64) (bG T I.2.2) 0 I.2
  rw [show I.2=(I.2.1,I.2.2) from rfl,qc] at Y
  unfold tX
  rw [eA,if_neg (by rw [G];decide)]
  have E:Eqv (I.2.1++(ip T D I.2.2).1,(ip T D I.2.2).2) (dk T (NT T D 0).expr I.2).2:=Y
  by_cases J:(dk T (NT T D 0).expr I.2).1=false
  ·rw [if_pos J]
   have Z:=ap J
   refine⟨?_,fun m=>absurd m Z⟩
   show(aM T 5 (ip T D I.2.2).2).2=_
   rw [(bY T 5 (ip T D I.2.2).2).dead (by rw [show(ip T D I.2.2).2=_ from E.1];exact Z)]
   exact E.1
  ·rw [if_neg J]
   have B:(ip T D I.2.2).2=(dk T (NT T D 0).expr I.2).2.2:=E.1
   refine⟨by show(aM T 5 (ip T D I.2.2).2).2=_;rw [B],fun m=>?_⟩
   have ed:(dk T (NT T D 0).expr I.2).2.2.e=0:=by
    rcases eq_zero_or_pos (dk T (NT T D 0).expr I.2).2.2.e with U | U
    ·exact U
    ·exact absurd m (by show ¬(aM T 5 (dk T (NT T D 0).expr I.2).2.2).2.e=0;rw [(bY T 5 _).dead (by omega)];omega)
   show I.2.1++(ip T D I.2.2).1++(aM T 5 (ip T D I.2.2).2).1=_
   rw [B,show I.2.1++(ip T D I.2.2).1=_ from E.2 ed]
 ·have B:(il T s).2=I.2.2:=H.1
  have wU:(il T s).2.e≠0:=by rw [B];exact A
  have O:(tX T D s).2=I.2.2:=by
   unfold tX
   rw [Fv T D wU]
   show(aM T 5 (il T s).2).2=_
   rw [(bY T 5 _).dead wU,B]
  by_cases G:I.1=false
  ·rw [if_pos G];exact⟨O,fun m=>absurd m A⟩
  ·rw [if_neg G]
   have e3:dk T (NT T D 0).expr I.2=(true,I.2):=by
    unfold dk bG
    unfold eW
    rw [wi T A];rfl
   rw [e3]
   have R:(aM T 5 I.2.2).2=I.2.2:=(bY T 5 _).dead A
   refine⟨?_,fun m=>absurd m (by show(aM T 5 I.2.2).2.e≠0;rw [R];exact A)⟩
   show(tX T D s).2=(aM T 5 I.2.2).2
   rw [O,R]
end
section
variable (b bb:Nat) (T:List Tok) (D:Nat)
theorem JH (B:dC T) (au:cO b bb T D 0 (fun s=>s.inn=false) 49 (jg T (NT T D 0).expr)) (s:St) (N:List Nd) (vn:Value) (A:Nat->Prop) (w:World) (hP:s.inn=false) (h:XAt w b bb T D 0 s s.i N vn A):
  Calls Tryz.prog 22 #[.pointer (some ⟨b,0,none⟩)] w (nY b bb T D 1 s (bE T (NT T D 0).expr s) N vn A w):=by
 have aJ:=zh B
 have aq:Hid (∀s:St,s.inn=false->(imT T s).2.inn=false):=zh (fun s h=>(aB T [59] _).inn.trans ((bY T 1 _).inn.trans ((aB T [105,109,112,111,114,116] s).inn.trans h)))
 have ZY:Hid (∀s:St,s.inn=false->(jg T (NT T D 0).expr s).2.inn=false):=zh (fun s h=>Tp (T:=T) (D:=D) s h)
 have Fs:=zh (fun (w1:World) (s:St) (J:List Nd) (xM ao:Value) (L:List (Value×Th)) (E:KX b bb T D 0 A vn w w1 s s.i J xM L) (hm:(ao,Th.strs [[105,109,112,111,114,116]])∈L) (H:s.inn=false)=>BE b bb T D 0 B (fun s=>isQ T [105,109,112,111,114,116] s=true) (imT T) 16 (by decide) (FS b bb T D 0 B) aq.out [[105,109,112,111,114,116]] (by decide) (fun s _ h=>by rw [at_one B (by decide)] at h;exact h) (fun s h=>by rw [at_one B (by decide)] at h;exact Lm h) E hm H)
 have Cc:=zh (fun (w1:World) (s:St) (J:List Nd) (xM ao:Value) (L:List (Value×Th)) (E:KX b bb T D 0 A vn w w1 s s.i J xM L) (hm:(ao,Th.strs [[112,117,98],[102,117,110]])∈L) (H:s.inn=false)=>wd b bb T D 0 B (fun s=>s.inn=false) (jg T (NT T D 0).expr) 64 (by decide) au ZY.out [[112,117,98],[102,117,110]] (by decide) (fun s hs _=>hs) (fun s h=>by rw [Ha B] at h;exact JO h) E hm H)
 rw [IK B] at Fs
 rw [Ha B] at Cc
 have m:=zh (KX.start h)
 have uF:=zh hP
 clear h B hP au aq ZY
 go_enter Tryz.func22,Tryz.ntmps22
 go_wp2_with fail
 refine(Fs _ _ _ _ _ _ (m.strs1 _ _) (Yu ..) uF).mono ?_
 rintro O w1 ⟨⟨lv,vs,J,xM,rfl,E,Y,R,U⟩,H⟩
 have m:Hid (KX b bb T D 0 A vn w w1 (il T s).2 (il T s).2.i J xM [(lv,.ints vs)]):=zh (E.few (List.Sublist.cons_cons _ (nil_sublist _)))
 have HA:Hid (cD 0 N s (il T s) J vs):=zh Y
 have bX:=zh R;have HL:=zh U;have cU:Hid ((il T s).2.inn=false):=zh H
 clear E Y R U H
 go_wp2_with fail
 refine(Cc _ _ _ _ _ _ (m.strs2 _ _ _) (Yu ..) cU).mono ?_
 rintro O w2 ⟨⟨aX,ak,N2,aL,rfl,E,Y,R,U⟩,H⟩
 obtain⟨q2,c2,rfl,K1,-,-⟩:=E.list (Yu ..)
 have m:=zh (E.few (L':=[(.slice q2 ak.length c2,.ints ak),(lv,.ints vs)]) (List.Sublist.cons_cons _ (vi _ _)))
 have zQ:=zh K1;have Ul:=zh U
 obtain⟨l2,CM⟩:=zx (vs++ak)
 have Ee:=zh CM;have fP:Hid (l2.length<=600):=zh (by rw [<-CM,Q2];have:=HL.out;omega)
 have HA:Hid (cD 0 N s ((il T s).1++(ip T D (il T s).2).1,(ip T D (il T s).2).2) N2 l2):=zh (by rw [<-CM];exact(HA.app Y R).weak (by decide))
 obtain⟨m2,Zt⟩:=zx ak.length
 have J0:=zh Zt
 rw [Zt] at m ⊢
 clear E Y R U H K1 CM Zt
 go_wp2_with (at_builtin;go_loud (refine bD rfl _ _ rfl m (vi _ _) rfl rfl (l2:=ak) J0 zQ (by have:=HL.out;omega) (by have:=Ul.out;omega) ?_))
 intro ay w3 KW
 rw [Ee.out] at KW
 have m:Hid (KX b bb T D 0 A vn w w3 (ip T D (il T s).2).2 (ip T D (il T s).2).2.i N2 aL [(ay,.ints l2)]):=zh KW
 clear KW zQ J0 Ee
 go_wp2_with fail
 have bM:=m
 have m:=zh m.drew
 go_region_held3 (fun w'=>w'.cell? ⟨b,0,none⟩=some (.pointer (some ⟨bb,0,none⟩))) (first | exact m.cell | exact(m.alloc _).cell)
  (first
   | (refine oy rfl _ _ rfl (m.ints1 _) (vi _ _) rfl rfl (l2:=[_]) rfl (qh _ _) (by have:=fP.out;omega) (by simp) ?_;intro aO w9 G;have m:=zh G;clear G)
   | (go_at_call 50;refine(KX.nodeEnd (kind:=1) (r:=tX T D s) m.out ?_ aJ.len ap XR.out ?_ ax).mono ?_;exact Yu ..;(have:=fP.out;rw [Q2];simp;omega);rintro O w9 ⟨x9,N9,dj,rfl,G,av⟩;have m:=zh G;have HZ:=zh av;clear G av)
   | (go_at_call 51;have qk:=zh m.out.ok;have UD:=zh m.out.room;(with_reducible refine(m.out.endOf aJ.out).mono ?_);rintro O w9 ⟨v9,u9,N9,dj,rfl,G,I⟩;have m:=zh G;have XR:Hid (E6 N (tX T D s) N9 (l2++[v9])):=zh (E6.of HA.out I);have ap:Hid (u9<=T.length):=zh (by
     have h5:=qk.out
     by_cases Z:(aM T 5 (ip T D (il T s).2).2).2.e=0
     ·rw [(I.1 Z).2.2.1];omega
     ·rw [(I.2 Z).2.2];omega);have ax:Hid ((tX T D s).2.e=0->N9.length+1<=2*u9):=zh (fun Z=>by
     have h6:=UD.out
     rw [(I.1 Z).2.2.1,(I.1 Z).1,Q2];show N2.length+1+1<=_;omega);clear G I))
 all_goals
  have hx:=m.done
  have HQ:Hid (nY b bb T D 1 s (bE T (NT T D 0).expr s) N vn A w (.returned (.int .i64 x9)) w9):=zh (by
   have he:=JC T D s
   refine⟨x9,u9,N9,dj,rfl,by rw [<-he.1];exact hx.1,hx.2,ap,fun O=>?_⟩
   rw [<-he.2 O]
   exact HZ (by rw [he.1];exact O))
  clear hx
  go_wp2_with fail
  go_ret
  exact HQ
end
end Go.Proofs.YtpkipghjohomcaaGreatDoor
set_option maxHeartbeats 4000000
set_option maxRecDepth 100000
namespace Go.Proofs.YtpkipghjohomcaaGreatDoor
open Go.RowKit List
section
variable (b bb:Nat) (T:List Tok) (D n:Nat)
theorem Jl (hC:dC T) (hD:D<=200) (hn:n<=D) (hA:cO b bb T D n (fun _=>True) 95 (orT T D n (NT T D n))) (hB:n<D->cO b bb T D (n+1) (fun _=>True) 65 (aP T D (n+1) (NT T D (n+1)))):cO b bb T D n (fun _=>True) 65 (aP T D n (NT T D n)):=by
 intro H ak vn A w hP h
 have L:=zh hC;have uF:=zh hP
 have py:=zh hA
 have qP:=zh (iC b bb T D n hD hn (fun _=>True) _ hB)
 have Pc:=zh (fun H U=>OQ T hn (sub:=aP T D (n+1) (NT T D (n+1))) (nt:=NT T D n) (fun hlt=>by rw [ro T hlt]) H U)
 have m:=zh (KX.start h)
 have dQ:=zh h.few
 have J:=zh (cD.nil ak H)
 clear h hC hP hD hn hA hB
 go_enter Tryz.func65,Tryz.ntmps65
 go_wp2_with fail
 refine(m.sub py trivial).mono ?_
 rintro R w9 ⟨v9,Z,dj,rfl,E,B,G⟩
 have m:=zh E;have HO:=zh B;have J:=zh B.out;have bX:=zh G
 clear E B G
 go_wp2_with fail
 refine(KX.at (ws:=[[61,62]]) (m.strs1 _ _) (Yu ..) (by decide)).mono ?_
 rintro R w1 ⟨rfl,U⟩
 have m:=zh (U.nils)
 obtain⟨b1,hb⟩:=zx (isQ T [61,62] (orT T D n (NT T D n) H).2)
 rw [at_one L.out (by decide),hb]
 have lk:=zh hb
 clear U hb
 cases b1
 ·have Y:=zh (KX.fin HO m bX (r':=aP T D n (NT T D n) H) (by rw [show aP T D n (NT T D n) H=orT T D n (NT T D n) H from if_neg (by rw [lk.out];decide)];exact Eqv.refl _))
  go_wp2_with fail
  go_ret
  exact Y
 ·skip
  have I:=zh (ah lk)
  go_wp2_with fail
  have m:=zh m.drew
  go_region_held3 (fun w'=>w'.cell? ⟨b,0,none⟩=some (.pointer (some ⟨bb,0,none⟩))) (with_reducible first | exact m.out.cell | exact(m.out.alloc _).cell | exact((m.out.alloc _).alloc _).cell | exact(((m.out.alloc _).alloc _).alloc _).cell)
   (first
    | (go_at_call 79;(with_reducible first | refine(m.out.take L.out I.out.1 I.out.2).mono ?_ | refine((m.out.strs1 _ _).take L.out I.out.1 I.out.2).mono ?_ | refine(((m.out.strs1 _ _).strs1 _ _).take L.out I.out.1 I.out.2).mono ?_);rintro R w9 ⟨v9,Z,dj,rfl,E,B,G⟩;have m:=zh E;have O:=zh (aZ.app J.out B G);have J:=zh O.out.out;clear E B G)
    | (go_at_call 64;(with_reducible first | refine(m.out.call (fun A h=>qP.out _ _ _ A _ trivial h)).mono ?_ | refine((m.out.strs1 _ _).call (fun A h=>qP.out _ _ _ A _ trivial h)).mono ?_ | refine(((m.out.strs1 _ _).strs1 _ _).call (fun A h=>qP.out _ _ _ A _ trivial h)).mono ?_);rintro R w9 ⟨v9,Z,dj,rfl,E,B,G⟩;have m:=zh E;have O:=zh (aZ.app J.out B G);have J:=zh O.out.out;clear E B G)
    | (go_at_call 50;have lR:=zh (O.weak (j:=0+1) (by decide));refine(KX.node (k:=0) (kind:=10) (m.ints3 _ _ _ ) ?_ L.len lR.out ?_ dQ.out ?_).mono ?_;exact Yu ..;rfl;simp;rintro R w9 ⟨v9,Z,dj,rfl,E,B⟩;have m:=zh E;have HZ:=zh B;clear E B))
  all_goals
   have Y:=zh (KX.fin HZ m (fun he=>absurd I.2 (bX he)) (r':=(aP T D n (NT T D n)) H) (Pc _ lk))
   go_wp2_with fail
   go_ret
   exact Y
end
end Go.Proofs.YtpkipghjohomcaaGreatDoor
set_option maxHeartbeats 8000000
namespace Go.Proofs.YtpkipghjohomcaaGreatDoor
open Go.RowKit List Nat
section
variable (b bb:Nat) (T:List Tok) (D:Nat)
theorem Ru (hC:dC T) (hD:D<=200) (hB:0<D->cO b bb T D 1 (fun _=>True) 65 (aP T D 1 (NT T D 1))) (s:St) (N:List Nd) (vn:Value) (A:Nat->Prop) (w:World) (h:XAt w b bb T D 0 s s.i N vn A):
  Calls Tryz.prog 35 #[.pointer (some ⟨b,0,none⟩)] w (nY b bb T D 18 s (dY T (NT T D 0).expr s) N vn A w):=by
 have Z:=zh hC
 have El:=zh (fun (s:St) (N:List Nd) (vn:Value) (A:Nat->Prop) (w:World) (hi:s.inn=true) h=>(iC b bb T D 0 hD (zero_le _) (fun _=>True) _ hB s N vn A w trivial h).mono (fun J w' hp=>hp.eqv (sz T (zero_le _) s hi)))
 have Lb:Hid ((setIn true s).inn=true):=zh rfl
 have m:=zh (KX.start h)
 have d7:=m.innc
 have d0:=m.cell
 have j0:=m.froz
 have m:Hid (KX b bb T D 0 A vn w (w.setCell ⟨b,7,none⟩ (.bool true)) (setIn true s) (setIn true s).i N vn []):=zh (m.setIn true)
 have H:=zh (cD.nil N (setIn true s))
 clear h hC hD hB
 go_enter Tryz.func35,Tryz.ntmps35
 go_wp2_with fail
 clear d7 d0 j0
 generalize (w.setCell ⟨b,7,none⟩ (.bool true))=W1 at *
 have m:=zh m.drew
 go_region_held3 (fun w'=>w'.cell? ⟨b,0,none⟩=some (.pointer (some ⟨bb,0,none⟩))) (with_reducible first | exact m.out.cell | exact(m.out.alloc _).cell)
  (first
   | (go_at_call 50;refine(KX.nodeEnd (kind:=18) (r:=dY T (NT T D 0).expr s) (m.ints2 _ _) ?_ Z.len R XR.out ?_ ao).mono ?_;exact Yu ..;simp;rintro J O ⟨x9,Y,I,rfl,B,ak⟩;have m:=zh B;have HZ:=zh ak;clear B ak)
   | (go_at_call 64;(with_reducible refine(m.out.call (fun A h=>El.out _ _ _ A _ Lb.out h)).mono ?_);rintro J O ⟨v9,Y,I,rfl,B,au,aL⟩;have m:=zh B;have H:=zh (cD.app H.out au.out aL);clear B au aL)
   | (go_at_call 51;have qk:=zh m.out.ok;have UD:=zh m.out.room;(with_reducible refine(m.out.endOf Z.out).mono ?_);rintro J O ⟨v8,u9,U,I,rfl,B,E⟩;have m:=zh B;have XR:Hid (E6 N (dY T (NT T D 0).expr s) U ([v9]++[v8])):=zh (E6.of H.out E);have R:Hid (u9<=T.length):=zh (by
     have h5:=qk.out
     by_cases G:(dY T (NT T D 0).expr s).2.e=0
     ·rw [(E.1 G).2.2.1];omega
     ·rw [(E.2 G).2.2];omega);have ao:Hid ((dY T (NT T D 0).expr s).2.e=0->U.length+1<=2*u9):=zh (fun G=>by
     have h6:=UD.out
     rw [(E.1 G).2.2.1,(E.1 G).1,Q2];show Y.length+1+1<=_;omega);clear B E))
 all_goals
  have L:=m.done
  have HQ:Hid (nY b bb T D 18 s (dY T (NT T D 0).expr s) N vn A w (.returned (.int .i64 x9)) O):=zh ⟨x9,u9,_,I,rfl,L.1,L.2,R,HZ⟩
  clear L
  go_wp2_with fail
  go_ret
  exact HQ
structure QY (n:Nat):Prop where
 expr:cO b bb T D n (fun s=>s.inn=false) 82 (gJ T D n (NT T D n))
 formula:cO b bb T D n (fun _=>True) 65 (aP T D n (NT T D n))
 nots:cO b bb T D n (fun _=>True) 137 (gp T D n (NT T D n))
 factor:cO b bb T D n (fun _=>True) 171 (bz T D n (NT T D n))
theorem yH (m:dC T) (A:D<=200) {n:Nat} (B:n<=D) (E:n<D->QY b bb T D (n+1)):QY b bb T D n:=by
 have I:=V8 b bb T D n A B (fun h=>(E h).expr)
 have Y:=QX b bb T D n m A B (fun h=>(E h).formula) (fun h=>(E h).expr)
 have O:=QZ b bb T D n m I
 have U:=Ws b bb T D n m A B Y O
 have J:=Mg b bb T D n m A B U (fun h=>(E h).factor)
 have R:=Jn b bb T D n m J
 have L:=Zv b bb T D n m R
 have ao:=Be b bb T D n m L
 have G:=FK b bb T D n m A B ao (fun h=>(E h).nots)
 have ak:=yg b bb T D n m G
 have Z:=yA b bb T D n m ak
 have H:=Jl b bb T D n m A B Z (fun h=>(E h).formula)
 exact⟨Al b bb T D n m A B H I,H,G,J⟩
theorem wl (m:dC T) (A:D<=200):∀k n,k+n=D->QY b bb T D n
 | 0,n,h=>yH b bb T D m A (by omega) (fun B=>by omega)
 | k+1,n,h=>yH b bb T D m A (by omega) (fun _=>wl m A k (n+1) (by omega))
theorem yj (m:dC T) (B:D<=200) (s:St) (N:List Nd) (vn:Value) (A:Nat->Prop) (w:World) (G:s.inn=false) (h:XAt w b bb T D 0 s s.i N vn A):
  Calls Tryz.prog 22 #[.pointer (some ⟨b,0,none⟩)] w (nY b bb T D 1 s (bE T (NT T D 0).expr s) N vn A w):=by
 have E:0<D->QY b bb T D 1:=fun h=>wl b bb T D m B (D - 1) 1 (by omega)
 have H:=O8 b bb T D m B (fun h=>(E h).formula)
 exact JH b bb T D m (Ag b bb T D m B H (fun h=>(E h).expr)) s N vn A w G h
theorem Cj (m:dC T) (B:D<=200) (s:St) (N:List Nd) (vn:Value) (A:Nat->Prop) (w:World) (h:XAt w b bb T D 0 s s.i N vn A):
  Calls Tryz.prog 35 #[.pointer (some ⟨b,0,none⟩)] w (nY b bb T D 18 s (dY T (NT T D 0).expr s) N vn A w):=
 Ru b bb T D m B (fun h=>(wl b bb T D m B (D - 1) 1 (by omega)).formula) s N vn A w h
end
end Go.Proofs.YtpkipghjohomcaaGreatDoor
set_option maxHeartbeats 64000000
namespace Go.Proofs.YtpkipghjohomcaaGreatDoor
open Go.RowKit Go.World
theorem Ql (T:List Tok) (N:List Nd) (K:Nat->Option Addr×Nat) (pt pn:Option Addr) (ct cn ay:Nat) (av:RIH T N K pt pn ct cn ay) (hT:T.length<=40000) (hN:N.length<=150000)
  (n:Nat) (ks:List Int) (J:Nat) (l:List Tr) (B:N[n]? = some ⟨(J:Int),-1,ks⟩) (dL:KT N n ks l) (hm:bK l<=ay) (mA:l.length<=150000) (dx:fj l) (eB:∀z∈cg l,z<T.length) (lx:WEs T l) (hs:ShE T J l) (m:J=8\/J=9)
  (w:World) (ht:bl w pt (T.map toI)) (hw:al w pn N K):
  Calls Tryz.prog 58 #[.agg #[.slice pt T.length ct,.slice pn N.length cn],.int .i64 (n:Int)] w (iq (axT T (.nd J l)) w):=by
 have HM:=zh (fun (op ps:Nat) W H I=>pz T N K pt pn ct cn ay av hT hN n ks (J:Int) l B dL hm mA dx (gU lx dx eB) op ps W H I)
 have Gt:=zh av;have kA:=zh dL;have sE:=zh dx;have lY:=zh eB;have K0:=zh lx;have qm:=zh hs;have lj:=zh hm;have nQ:=zh hT;have xx:=zh hN
 obtain⟨k0,ak,y1,y2,O,oh,yO,tr⟩:=gN (K:=K) (pt:=pt) (pn:=pn) (ct:=ct) (cn:=cn) hT hN dL dx eB (by cases hs<;>simp)
 have Ai:=zh yO
 have lC:=zh tr
 obtain⟨kI,se⟩:∃kI:Int,(J:Int)=kI:=⟨_,rfl⟩
 have jm:=zh se
 rw [se] at B
 obtain⟨au,aJ,rfl,bN,c0,c1,c2⟩:=bZ hw B
 have iE:=zh (hw.2 n _ B)
 have hn:n<N.length:=(Q4.1 B).1
 have HW:=zh hw;have HT:=zh ht
 have lH:=zh dL.1
 obtain⟨ao,hM⟩:=zx N.length
 obtain⟨tm,kK⟩:=zx T.length
 obtain⟨kl,ge⟩:=zx ks.length
 have Qy:0<kl:=by rw [<-ge,lH.out];cases hs<;>simp
 have Ei:=zh hM;have ue:=zh kK;have uL:=zh ge
 simp only at c0 c1 c2
 rw [hM] at hn hN HM lC ⊢
 rw [kK] at hT HM lC ⊢
 rw [ge] at c2
 obtain⟨kq,kV⟩:=zx (K n).1
 obtain⟨kc,px⟩:=zx (K n).2
 have iE:Hid (VAt w kq (ar ks)):=zh (by rw [<-kV];exact iE)
 rw [kV,px] at c2
 have d1:decide (n<ao)=true:=zd hn
 have ml:=zE ((n:Int)<(ao:Int))
 have mR:Hid (au<w.heap.size):=zh bN
 obtain⟨Y,dR,rfl,je,L⟩:=bO iE oh
 have mJ:Hid (Y<w.heap.size):=zh je
 rw [Nat.add_zero] at L
 have xA:=zh L
 have z0:(0:Int)<(kl:Int):=by omega
 have yF:decide ((0:Int)<(kl:Int))=true:=zd z0
 have EK:=zE (0<kl)
 obtain⟨a3,hX⟩:=zx (axT T (.nd J l))
 have HX:=zh hX
 rw [hX]
 clear B hw ht av hM kK ge kV px dx hm mA eB lx tr oh dL L hT hN hs se yO hX
 have jo:=af (af (qn w (.cells #[.slice pt tm ct,.slice (some ⟨au,aJ,none⟩) ao cn] 46) none) (.cells #[.int .i64 0,.string ⟨#[]⟩,.string ⟨#[]⟩,.string ⟨#[]⟩,.bool false,.slice none 0 0,.int .i64 0] 68)) (.cells #[.int .i64 kI,.int .i64 (-1),.slice (some ⟨Y,dR,none⟩) kl kc] 86)
 have c0:=jo.cell c0 (by simp)
 have c1:=jo.cell c1 (by simp)
 have c2:=jo.cell c2 (by simp)
 go_enter Tryz.func58,Tryz.ntmps58
 go_wp2_with fail
 obtain⟨W,b0,b1,b2,hW,e0,e1,e2,cS,dq,ec,dp,lu,oR⟩:=three w (.cells #[.slice pt tm ct,.slice (some ⟨au,aJ,none⟩) ao cn] 46) (.cells #[.int .i64 0,.string ⟨#[]⟩,.string ⟨#[]⟩,.string ⟨#[]⟩,.bool false,.slice none 0 0,.int .i64 0] 68) (.cells #[.int .i64 kI,.int .i64 (-1),.slice (some ⟨Y,dR,none⟩) kl kc] 86)
 have ky:W.heap.size=b2+1:=by rw [hW];simp;omega
 have R:=zh cS;have E:=zh dq;have U:=zh ec;have bm:=zh dp;have gj:=zh e0;have ll:=zh e1;have uh:=zh ky
 clear cS dq ec dp c2 jo c0 c1
 try rw [<-hW]
 try rw [e2]
 try rw [e1]
 try rw [e0]
 clear e0 e1 e2 hW ky
 obtain⟨a0,a1,a2⟩:=ac R
 obtain⟨n0,n1,n2,n3⟩:=cells3 U
 have L:=bm.cell xA (by simp)
 have dZ:b0<W.heap.size:=hlt R
 have cB:b2<W.heap.size:=hlt U
 have kB:Y<W.heap.size:=zn mJ bm.size
 go_cut [6] (fun t6 wx=>Hid (kr W b2 ak y1 y2 O t6 wx))
 case first=>
  go_region_held3 (fun w'=>w'.cell? ⟨b0,0,none⟩=some (.slice pt tm ct)/\w'.cell? ⟨b0,1,none⟩=some (.slice (some ⟨au,aJ,none⟩) ao cn)/\w'.cell? ⟨b2,2,none⟩=some (.slice (some ⟨Y,dR,none⟩) kl kc)/\w'.cell? ⟨Y,dR,none⟩=some (.int .i64 (k0:Int)))
   (first | with_reducible exact⟨a0,a1,n2,L⟩ | with_reducible exact⟨di a0 (by omega),di a1 (by omega),di n2 (by omega),di L (by omega)⟩ | go_keep)
   (first | (go_at_call 25;refine(lC _ (HT.kept (aa bm gbx)) (HW.kept (aa bm gbx))).mono ?_;rintro aO w2 ⟨rfl,bL⟩;(try (have mB:=bx bL (YK W (.cells #[.int .i64 0,.string ⟨#[]⟩,.string ⟨#[]⟩,.int .i64 0] 88))));(try (have xR:=cx mB;obtain⟨q0,q1,q2,q3,q4⟩:=xR));have bF:=zh (aa (show W.grownBy _ none from gbx) bL);obtain⟨a0,a1,a2⟩:=ac (bx bF R);obtain⟨n0,n1,n2,n3⟩:=cells3 (bx bF U);have L:=bF.cell L (by simp);clear bL))
  all_goals
   have s2:W.heap.size<=w2.heap.size:=bF.size
   go_wp2_with fail
   go_meet
   first
    | (with_reducible refine zh (jH bF.out ?_)
       omega)
    | (with_reducible refine zh (jz bF.out (Nat.le_refl _) cB mB))
 case rest=>
  obtain⟨b3,rfl,fa,JZ,dX⟩:=hcut.out
  have Z:=zh (aa bm dX)
  have R:=zh (bx dX R);have E:=zh (bx dX E);have U:=zh (bx dX U);have ie:=zh fa
  have HT:=zh (HT.kept Z);have HW:=zh (HW.kept Z)
  have ll:Hid (w.heap.size<=b1/\b1<b2):=zh (by have:=ll.out;omega)
  obtain⟨a0,a1,a2⟩:=ac R
  obtain⟨n0,n1,n2,n3⟩:=cells3 U
  obtain⟨t0,t1,t2,t3,t4⟩:=cx ie
  have dZ:b0<wc.heap.size:=hlt R
  have eg:b1<wc.heap.size:=hlt E
  have Sc:Hid (b1<wc.heap.size):=zh eg
  have cB:b2<wc.heap.size:=hlt U
  have fa:b3<wc.heap.size:=hlt ie
  have kB:Y<wc.heap.size:=zn mJ Z.size
  clear hcut dX
  have hs:=qm.out
  cases hs with
  | let_ A ap k' m' aq aL H I=>exact absurd m (by decide)
  | if_ A ap k' aq aL v H I h3=>
    clear m
    obtain rfl:kI=8:=by rw [<-jm.out];rfl
    obtain⟨hy,jy⟩:=Ai A rfl
    have HY:=zh hy
    have B:=HX.symm.trans (ax8 T A _)
    rw [<-jy] at B
    subst B
    clear HX jy hy
    go_wp2_with fail
    refine(HM 21 O _ HT HW).mono ?_
    rintro aO w5 ⟨G,aX,rfl,hq⟩
    obtain⟨pk,nk,ck,rfl,qp⟩:=hq.plain
    have HQ:=zh qp
    have TI:=zh G.size
    have BB:=zh G
    have ef:=zh (aa Z G)
    have hB:=bx G E
    obtain⟨f0,f1,f2,f3,f4,f5,f6,f7⟩:=aN hB
    have E:=zh hB
    clear hq qp G HM hB
    go_wp2_with fail
    have HP:=zh (fp (w:=w) ef ll.1 E (HQ.out [] []) (fun ax m=>by have I:=Z.size;have m:wc.heap.size<=ax:=m;exact⟨by omega,by omega⟩))
    obtain⟨hp,-⟩:=ju E (.int .i64 21) (.string ⟨#[]⟩) (.string ⟨#[]⟩) (.string ⟨#[]⟩) (.bool false) (.slice pk nk ck) (.int .i64 (O:Int))
    obtain⟨r0,r1,r2,r3,r4,r5,r6,-⟩:=aN hp
    refine bodyPost_ret (v:=.agg #[(.int .i64 21),(.string ⟨#[]⟩),(.string ⟨#[]⟩),(.string ⟨#[]⟩),(.bool false),(.slice pk nk ck),(.int .i64 (O:Int))]) (by simp [results,Tryz.results58,go_sem,r0,r1,r2,r3,r4,r5,r6]) rfl HP
  | assert_ A ap aq aL H I=>
    clear m
    obtain rfl:kI=9:=by rw [<-jm.out];rfl
    obtain⟨hy,jy⟩:=Ai A rfl
    have HY:=zh hy
    have B:=HX.symm.trans (ax9 T A _)
    rw [<-jy] at B
    subst B
    clear HX jy hy
    go_wp2_with fail
    refine(HM 23 O _ HT HW).mono ?_
    rintro aO w5 ⟨G,aX,rfl,hq⟩
    obtain⟨pk,nk,ck,rfl,qp⟩:=hq.plain
    have HQ:=zh qp
    have TI:=zh G.size
    have BB:=zh G
    have ef:=zh (aa Z G)
    have hB:=bx G E
    obtain⟨f0,f1,f2,f3,f4,f5,f6,f7⟩:=aN hB
    have E:=zh hB
    clear hq qp G HM hB
    go_wp2_with fail
    have HP:=zh (fp (w:=w) ef ll.1 E (HQ.out [] []) (fun ax m=>by have I:=Z.size;have m:wc.heap.size<=ax:=m;exact⟨by omega,by omega⟩))
    obtain⟨hp,-⟩:=ju E (.int .i64 23) (.string ⟨#[]⟩) (.string ⟨#[]⟩) (.string ⟨#[]⟩) (.bool false) (.slice pk nk ck) (.int .i64 (O:Int))
    obtain⟨r0,r1,r2,r3,r4,r5,r6,-⟩:=aN hp
    refine bodyPost_ret (v:=.agg #[(.int .i64 23),(.string ⟨#[]⟩),(.string ⟨#[]⟩),(.string ⟨#[]⟩),(.bool false),(.slice pk nk ck),(.int .i64 (O:Int))]) (by simp [results,Tryz.results58,go_sem,r0,r1,r2,r3,r4,r5,r6]) rfl HP
  | bin A aq aL H I h3=>exact absurd m (by decide)
  | una A aq H I=>exact absurd m (by decide)
  | grp A ap aq H=>exact absurd m (by decide)
  | call A ap l' H=>exact absurd m (by decide)
  | callm A ap k3 l' H=>exact absurd m (by decide)
  | nam A=>exact absurd m (by decide)
  | num A H=>exact absurd m (by decide)
  | tru A=>exact absurd m (by decide)
  | res A=>exact absurd m (by decide)
end Go.Proofs.YtpkipghjohomcaaGreatDoor
