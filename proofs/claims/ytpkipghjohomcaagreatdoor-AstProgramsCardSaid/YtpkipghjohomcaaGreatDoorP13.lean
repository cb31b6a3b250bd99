/- Lemmas. -/
import Derived.Test.YtpkipghjohomcaaGreatDoorP10
set_option linter.unusedVariables false
set_option linter.unusedSimpArgs false
set_option maxHeartbeats 16000000
set_option maxRecDepth 100000
namespace Go.Proofs.YtpkipghjohomcaaGreatDoor
open Go.RowKit List Nat Go.World
theorem zq:∀ {l:List Ex} {j:Nat} {k:Ex},l[j]? = some k->jl (l.take (j+1))=jl (l.take j)++32::cL k
 | [],j,k,h=>by simp at h
 | y::l,0,k,h=>by simp at h;subst h;simp [jl]
 | y::l,j+1,k,h=>by
   have m:=zq (l:=l) (j:=j) (k:=k) (by simpa using h)
   rw [take_succ_cons,take_succ_cons];simp only [jl];rw [m];simp
theorem pu:∀(l:List Ex) (j:Nat),(jl (l.take j)).length<=(jl l).length
 | [],j=>by simp
 | y::l,0=>by simp [jl]
 | y::l,j+1=>by
   have:=pu l j
   rw [take_succ_cons];simp only [jl,Q2,hJ];omega
theorem PJ (x:Ex):1<=(cL x).length:=by cases x;simp only [cL,Q2,hJ];omega
theorem Dj:∀l:List Ex,l.length<=(jl l).length
 | []=>zero_le _
 | k::l=>by have:=Dj l;have:=PJ k;simp only [jl,hJ,Q2];omega
theorem GN:∀(n:Nat) (x:Ex),cY x<=n->∀(F:Nat->Prop) (q:List Value) (w:World),RAt F w x q->iL x->(cL x).length<=1000000->
  Calls Tryz.prog 31 #[.agg q.toArray] w (pq (cL x) w):=by
 intro n
 induction n with
 | zero=>intro x hn;cases x;simp [cY] at hn
 | succ n ih=>
   intro x hn F q w hx hs hl
   cases x with
   | mk m G A R H E I=>
     simp only [RAt] at hx
     obtain⟨pk,ck,bF,rfl,hg,eh,-⟩:=hx
     simp only [iL] at hs
     obtain⟨⟨s1,s2,s3,s4⟩,YH⟩:=hs
     obtain⟨Z,hy⟩:∃Z:ByteArray,(⟨G.toArray⟩:ByteArray)=Z:=⟨_,rfl⟩
     obtain⟨ak,hz⟩:∃ak:ByteArray,(⟨A.toArray⟩:ByteArray)=ak:=⟨_,rfl⟩
     obtain⟨Y,hu⟩:∃Y:ByteArray,(⟨R.toArray⟩:ByteArray)=Y:=⟨_,rfl⟩
     unfold aD
     rw [hy,hz,hu]
     have pf:Z.data.toList=G:=by rw [<-hy]
     have FG:ak.data.toList=A:=by rw [<-hz]
     have ay:Y.data.toList=R:=by rw [<-hu]
     have y1:Z.size<=1000000:=by rw [aV pf];omega
     have z1:ak.size<=1000000:=by rw [aV FG];omega
     have u1:Y.size<=1000000:=by rw [aV ay];omega
     have yZ:=zh pf;have H0:=zh FG;have a7:=zh ay
     have bd:ak.toList.isEmpty=decide (A = []):=by
      rw [toList_data,H0.out];cases A<;>simp
     have bc:Z.toList.isEmpty=decide (G = []):=by
      rw [toList_data,yZ.out];cases G<;>simp
     obtain⟨O,dU⟩:=zx E.length
     have lH:=zh dU
     have HG:=zh hg;have fc:=zh eh;have HN:=zh hn;have HL:=zh hl;have IH:=zh ih
     have YT:=zh YH
     have uH:O<=1000000:=by
      have L:=Dj E
      simp only [cL,Q2] at hl
      omega
     obtain⟨a5,hD⟩:=zx (cL (Ex.mk m G A R H E I))
     have HD:=zh hD
     have aX:=zh (fun W=>CF m s1 W)
     rw [dU,hD]
     clear hg eh hn hl ih dU hD YH hy hz hu pf FG ay s2 s3 s4
     go_enter Tryz.func31,Tryz.ntmps31
     go_wp2_with fail
     have kt:=qn w (.cells #[.int .i64 (m:Int),.string Z,.string ak,.string Y,.bool H,.slice pk O ck,.int .i64 (I:Int)] 68) none
     have rW:(w.alloc (.cells #[.int .i64 (m:Int),.string Z,.string ak,.string Y,.bool H,.slice pk O ck,.int .i64 (I:Int)] 68)).heap.size=w.heap.size+1:=by simp
     have hA:=YK w (.cells #[.int .i64 (m:Int),.string Z,.string ak,.string Y,.bool H,.slice pk O ck,.int .i64 (I:Int)] 68)
     generalize (w.alloc (.cells #[.int .i64 (m:Int),.string Z,.string ak,.string Y,.bool H,.slice pk O ck,.int .i64 (I:Int)] 68))=WA at *
     obtain⟨J,hb⟩:=zx w.heap.size
     rw [hb] at hA rW ⊢
     refine(aX WA).mono ?_
     rintro av W ⟨sP,he⟩
     obtain⟨dg,Xz⟩:∃dg:ByteArray,(⟨(eK m).toArray⟩:ByteArray)=dg:=⟨_,rfl⟩
     have Fb:dg.data.toList=eK m:=by rw [<-Xz]
     rw [Xz] at he
     subst he
     have ZQ:dg.size<=2:=by rw [aV Fb];unfold eK;split<;>simp
     have Kp:=zh Fb
     have xH:=zh (bx sP hA)
     have bm:=zh (aa kt sP)
     have Ep:J<W.heap.size:=jJ (bx sP hA)
     have e0:W.cell? ⟨J,0,none⟩=some (.int .i64 (m:Int)):=by rw [hZ W J 0 _ _ (0,0) xH.out];rfl
     have e1:W.cell? ⟨J,1,none⟩=some (.string Z):=by rw [hZ W J 1 _ _ (0,0) xH.out];rfl
     have e2:W.cell? ⟨J,2,none⟩=some (.string ak):=by rw [hZ W J 2 _ _ (0,0) xH.out];rfl
     have e3:W.cell? ⟨J,3,none⟩=some (.string Y):=by rw [hZ W J 3 _ _ (0,0) xH.out];rfl
     have e4:W.cell? ⟨J,4,none⟩=some (.bool H):=by rw [hZ W J 4 _ _ (0,0) xH.out];rfl
     have e5:W.cell? ⟨J,5,none⟩=some (.slice pk O ck):=by rw [hZ W J 5 _ _ (0,0) xH.out];rfl
     clear kt rW hA hb sP Xz Fb aX
     go_upto_if 11 with fail
     go_cut [3] (fun t3 wx=>(∃au:ByteArray,t3=.string au/\Hid (au.data.toList=91::eK m++nmE (.mk m G A R H E I)))/\wx=W)
     case first=>
      by_cases hm:A = []
      ·have f1:(!decide (A = []))=false:=by simp [hm]
       by_cases ao:G = []
       ·have f2:(!decide (G = []))=false:=by simp [ao]
        have Kh:Hid (nmE (.mk m G A R H E I) = []):=zh (by simp [nmE,hm,ao])
        clear hm ao
        go_wp2_with fail
        all_goals
         first
          | (exfalso;exact absurd (f1.symm.trans (by assumption:(!decide (A = []))=true)) (by decide))
          | (exfalso;exact absurd (f1.symm.trans (by assumption:(!decide (A = []))=false)) (by decide))
          | (go_meet;exact⟨⟨_,rfl,zh (by simp [bo,Kp.out,Kh.out])⟩,rfl⟩)
       ·have f2:(!decide (G = []))=true:=by simp [ao]
        have Kh:Hid (nmE (.mk m G A R H E I)=32::G):=zh (by simp [nmE,hm,ao])
        clear hm ao
        go_wp2_with fail
        all_goals
         first
          | (exfalso;exact absurd (f1.symm.trans (by assumption:(!decide (A = []))=true)) (by decide))
          | (exfalso;exact absurd (f1.symm.trans (by assumption:(!decide (A = []))=false)) (by decide))
          | (go_meet;exact⟨⟨_,rfl,zh (by simp [bo,Kp.out,Kh.out,yZ.out])⟩,rfl⟩)
      ·have f1:(!decide (A = []))=true:=by simp [hm]
       have Kh:Hid (nmE (.mk m G A R H E I)=32::(A++46::G)):=zh (by simp [nmE,hm])
       clear hm
       go_wp2_with fail
       all_goals
        first
         | (exfalso;exact absurd (f1.symm.trans (by assumption:(!decide (A = []))=true)) (by decide))
         | (exfalso;exact absurd (f1.symm.trans (by assumption:(!decide (A = []))=false)) (by decide))
         | (go_meet;exact⟨⟨_,rfl,zh (by simp [bo,Kp.out,Kh.out,yZ.out,H0.out])⟩,rfl⟩)
     case rest=>
      obtain⟨⟨au,rfl,HS⟩,rfl⟩:=hcut
      clear bd bc ZQ Kp e1 e2 yZ H0 y1 z1
      have JK:Hid (a5=91::eK m++nmE (.mk m G A R H E I)++jc (.mk m G A R H E I)++jl E++[93]):=zh (by rw [<-HD.out];simp only [cL,fU,append_assoc])
      have a9:au.size<=1000000:=by
       rw [aV HS.out]
       have L:=HL.out
       rw [HD.out,JK.out] at L
       simp only [Q2] at L ⊢
       omega
      have UE:m=1\/(m=2/\H=true)\/(m=2/\H=false)\/(m≠1/\m≠2):=by
       by_cases L:m=1
       ·exact .inl L
       ·by_cases h2:m=2
        ·cases H
         ·exact .inr (.inr (.inl ⟨h2,rfl⟩))
         ·exact .inr (.inl ⟨h2,rfl⟩)
        ·exact .inr (.inr (.inr ⟨L,h2⟩))
      obtain⟨T1,lN⟩:∃T1,Hid (jc (.mk m G A R H E I)=T1):=⟨_,zh rfl⟩
      obtain⟨N1,xD⟩:∃N1,Hid (nmE (.mk m G A R H E I)=N1):=⟨_,zh rfl⟩
      obtain⟨a0,HX⟩:∃a0,Hid (Ex.mk m G A R H E I=a0):=⟨_,zh rfl⟩
      have Jv:Hid (∀B,(91::eK m++N1++T1++jl (E.take B)).length<=999999):=zh (fun B=>by
       have L:=HL.out
       have h2:=pu E B
       rw [HD.out,JK.out,xD.out,lN.out] at L
       simp only [Q2,length_singleton] at L ⊢
       omega)
      rw [xD.out] at HS JK
      rw [lN.out] at JK
      have SP:=zh UE
      clear UE
      rcases SP.out with h | ⟨h,Y0⟩ | ⟨h,Y0⟩ | ⟨h,h2⟩
      all_goals
       first
        | (have q1:((m:Int) == 1)=true:=(by rw [h];rfl)
           have aJ:(m == 1)=true:=(by rw [h];rfl)
           have q2:((m:Int) == 2)=false:=(by rw [h];rfl)
           have aL:(m == 2)=false:=(by rw [h];rfl)
           have nQ:Hid (T1=32::Y.data.toList):=zh (by rw [<-lN.out];simp [jc,a7.out,h])
           clear h)
        | (have hq:H=true:=(by exact Y0)
           have q1:((m:Int) == 1)=false:=(by rw [h];rfl)
           have aJ:(m == 1)=false:=(by rw [h];rfl)
           have q2:((m:Int) == 2)=true:=(by rw [h];rfl)
           have aL:(m == 2)=true:=(by rw [h];rfl)
           have nQ:Hid (T1 = [32,116,114,117,101]):=zh (by rw [<-lN.out];simp [jc,h,Y0])
           subst Y0
           clear h hq)
        | (have q1:((m:Int) == 1)=false:=(by rw [h];rfl)
           have aJ:(m == 1)=false:=(by rw [h];rfl)
           have q2:((m:Int) == 2)=true:=(by rw [h];rfl)
           have aL:(m == 2)=true:=(by rw [h];rfl)
           have nQ:Hid (T1 = [32,102,97,108,115,101]):=zh (by rw [<-lN.out];simp [jc,h,Y0])
           subst Y0
           clear h)
        | (have q1:=yi (m:Int) 1
           have aJ:(m == 1)=false:=xz.2 h
           have q2:=yi (m:Int) 2
           have aL:(m == 2)=false:=xz.2 h2
           have nQ:Hid (T1 = []):=zh (by rw [<-lN.out];simp [jc,h,h2])
           clear h h2)
       go_wp2_with fail
       go_loopw [3,4] (fun aO ap wr=>∃B:Nat,B<=O/\ap=.int .i64 B/\(∃aq:ByteArray,aO=.string aq/\Hid (aq.data.toList=91::eK m++N1++T1++jl (E.take B)))/\Hid (wc.grownBy wr none)) (fun _ ap _=>O - (intOf ap).toNat)
       case atStart=>exact⟨0,zero_le _,rfl,⟨_,rfl,zh (by simp [bo,HS.out,nQ.out,jl])⟩,zh (ad _ _)⟩
       case round=>
        obtain⟨B,hk,rfl,⟨aq,rfl,HT⟩,ij⟩:=hrel
        have DI:Hid (w.grownBy wr none):=zh (aa bm ij)
        have e5:=ij.cell e5 (by simp)
        have Ep:=zn Ep ij.size
        have K2:aq.size<=1000000:=by rw [aV HT.out];have:=Jv B;omega
        clear a9 e0 e3 e4
        by_cases hlt:B<O
        ·have d3:=zE ((B:Int)<(O:Int))
         have Yv:decide (B<O)=true:=zd hlt
         obtain⟨x,hx⟩:∃x,E[B]? = some x:=⟨E[B]'(by rw [lH.out];exact hlt),QS _⟩
         obtain⟨qx,pY,ML⟩:=Bj fc hx
         have cu:=zh (zq hx)
         have qv:Hid (cY x<=n):=zh (by have:=re hx;have:=HN.out;simp only [cY] at this;omega)
         have uu:=zh (ML.kept DI)
         have a6:=zh (th YT (gn hx))
         obtain⟨bt,bw,rfl,bN,U⟩:=HG.resolve_left (fun av=>by rw [av] at pY;simp at pY)
         have oA:Hid ((cL x).length<=999998):=zh (by
          have L:=Jv (B+1)
          rw [cu.out] at L
          simp only [Q2,hJ] at L
          omega)
         have Ec:=zh (fun W h=>IH.out x qv F qx W h a6 (by have:=oA.out;omega))
         cases x with
         | mk bi a3 a2 a4 bq mE bn=>
           simp only [RAt] at ML
           obtain⟨bB,bs,bH,rfl,-⟩:=ML
           unfold aD at *
           generalize (⟨a3.toArray⟩:ByteArray)=y' at *
           generalize (⟨a2.toArray⟩:ByteArray)=z' at *
           generalize (⟨a4.toArray⟩:ByteArray)=u' at *
           generalize a8:mE.length=bu at *
           have U:=fun ap aO h=>DI.cell (U B _ pY ap aO h) (by simp)
           have c0:=U 0 _ rfl
           have c1:=U 1 _ rfl
           have c2:=U 2 _ rfl
           have c3:=U 3 _ rfl
           have c4:=U 4 _ rfl
           have c5:=U 5 _ rfl
           have c6:=U 6 _ rfl
           rw [Nat.add_zero] at c0
           have bN:=zn bN DI.size
           obtain⟨ax,B1⟩:=zx (cL (Ex.mk bi a3 a2 a4 bq mE bn))
           rw [B1] at oA cu Ec
           clear hx pY U a8 B1
           go_wp2_with fail
           refine(Ec _ uu).mono ?_
           rintro av w7 ⟨⟨a1,rfl,hd⟩,dV⟩
           have rP:a1.size<=999998:=by rw [aV hd];exact oA
           have nE:Hid ((aq++((⟨#[32]⟩:ByteArray)++a1)).data.toList=91::eK m++N1++T1++jl (E.take (B+1))):=zh (by rw [bo,bo,HT.out,hd,cu.out,append_assoc];rfl)
           have cG:Hid (wc.grownBy w7 none):=zh (aa ij dV)
           clear hd dV
           go_wp2_with fail
           go_roundw
           case rel=>exact⟨B+1,by omega,by go_num,⟨_,rfl,nE⟩,cG⟩
           case measure=>(simp [intOf]<;>omega)
        ·obtain rfl:B=O:=by omega
         rw [V7 (by rw [lH.out];exact Nat.le_refl _)] at HT
         go_wp2_with fail
         go_ret
         exact⟨⟨_,rfl,by rw [bo,HT.out,JK.out]⟩,DI⟩
set_option maxHeartbeats 8000000
open Go.RowKit List Nat
section
variable {b bb:Nat} {T:List Tok} {D n:Nat} {A0:Nat->Prop} {bt:Value} {w0 w w':World} {s:St} {u:Nat} {N:List Nd} {vn:Value} {L:List (Value×Th)}
theorem afu (w:World) (x y:Int):VAt (w.alloc (.cells #[.int .i64 x,.int .i64 y] 3)) (some ⟨w.heap.size,0,none⟩) (ar [x,y]):=by
 refine .inr ⟨w.heap.size,0,rfl,by simp,fun A B m=>?_⟩
 rw [Nat.zero_add,hZ _ _ A _ _ (0,0) (YK w _)]
 simpa [ar] using m
theorem Qz (w:World) (x y z:Int):VAt (w.alloc (.cells #[.int .i64 x,.int .i64 y,.int .i64 z] 3)) (some ⟨w.heap.size,0,none⟩) (ar [x,y,z]):=by
 refine .inr ⟨w.heap.size,0,rfl,by simp,fun A B m=>?_⟩
 rw [Nat.zero_add,hZ _ _ A _ _ (0,0) (YK w _)]
 simpa [ar] using m
theorem F7 (h:¬((ae T s).2.inn=true\/(isQ T [46] (ae T s).2=false/\isQ T [40] (ae T s).2=false))) {nt:NxT}:eV T nt s=jr T (cM T nt (de T (dh T (ae T s)))):=by unfold eV;rw [if_neg h]
theorem Af (h:(ae T s).2.inn=true\/(isQ T [46] (ae T s).2=false/\isQ T [40] (ae T s).2=false)) {nt:NxT}:eV T nt s=([.nd 14 (ae T s).1],(ae T s).2):=by unfold eV;rw [if_pos h]
theorem Dm {nt:NxT} {c d:RT} (h:Eqv d (fi T nt.expr c.2)) (m:Eqv (fi T nt.expr c.2) (if isQ T [41] c.2=true then ([],c.2) else lz T nt c.2)):
  Eqv ([.nd 13 (c.1++d.1++(an T [41] d.2).1)],(an T [41] d.2).2) (jr T (cM T nt c)):=by
 have E:d.2=(cM T nt c).2/\((cM T nt c).2.e=0->c.1++d.1=(cM T nt c).1):=by
  unfold cM
  by_cases B:isQ T [41] c.2=true
  ·rw [if_pos B] at m
   rw [if_pos B]
   exact⟨h.1.trans m.1,fun A=>by rw [h.2 (by rw [m.1];exact A),m.2 A,append_nil]⟩
  ·rw [if_neg B] at m
   rw [if_neg B]
   exact⟨h.1.trans m.1,fun A=>by rw [h.2 (by rw [m.1];exact A),m.2 A]⟩
 unfold jr
 rw [E.1]
 refine⟨rfl,fun A=>?_⟩
 have G:(cM T nt c).2.e=0:=by
  rcases eq_zero_or_pos (cM T nt c).2.e with h | h
  ·exact h
  ·exact absurd A (by show ¬(an T [41] (cM T nt c).2).2.e=0;rw [(aB T [41] (cM T nt c).2).dead (by omega)];omega)
 show [Tr.nd 13 _] = [Tr.nd 13 _]
 rw [E.2 G]
end
section
variable (b bb:Nat) (T:List Tok) (D n:Nat)
theorem XC (H:cO b bb T D n (fun s=>s.inn=false) 118 (NT T D n).expr):QO b bb T D n (fun s=>s.inn=false) 175 (NT T D n).expr:=by
 intro A0 bt w0 w s N vn L ao G m I
 have Z:=zh H;have O:=zh m;have uF:=zh G
 have c0:=m.boxc I
 clear H m G I
 go_enter Tryz.func175,Tryz.ntmps175
 go_wp2_with fail
 refine(O.sub Z uF).mono ?_
 rintro ak w9 ⟨J,U,Y,rfl,B,E,A⟩
 have R:Hid (jX b bb T D n 0 A0 bt w0 s ((NT T D n).expr s) N L (.returned (.int .i64 J)) w9):=zh ⟨J,U,Y,rfl,B,E,A⟩
 clear B E A
 go_wp2_with fail
 go_ret
 exact R
theorem QZ (hC:dC T) (hX:cO b bb T D n (fun s=>s.inn=false) 118 (NT T D n).expr):cO b bb T D n (fun s=>s.e=0/\(az T s).kind=1) 174 (eV T (NT T D n)):=by
 intro s N vn ao w hP h
 have I:=zh hC
 have aX:=zh (show(az T s).kind≠5/\s.e=0 from⟨by omega,hP.1⟩)
 have dQ:=zh h.few
 have ax:=zh (XC b bb T D n hX)
 have E0:=zh (gl T D (D - n)).expr
 have Ur:=zh (fun (s:St) (hi:s.i<=T.length)=>vI T (ey T D (D - n)).expr (fun s he=>((gl T D (D - n)).expr s).dead he) s hi)
 obtain⟨R,hg⟩:=zx w.heap.size
 have m:Hid (KX b bb T D n ao vn w (w.alloc (.cells #[.pointer (some ⟨b,0,none⟩)] 80)) s s.i N vn [(nG R,pL b)]):=zh (by rw [<-hg];exact(KX.start h).boxed _ _)
 have O:=m.boxc (Yu ..)
 have G:=zh (cD.nil N s)
 clear h hX hC hP
 go_enter Tryz.func174,Tryz.ntmps174
 go_wp2_with fail
 try rw [hg]
 refine(m.take I aX.1 aX.2).mono ?_
 rintro H w1 ⟨v3,N1,xM,rfl,U,ho,hd⟩
 have m:=zh U;have HO:=zh ho;have G:=zh (G.app ho.out hd);have J:Hid (s.e≠0->(ae T s).2.e≠0):=zh hd
 have lY:=zh (n7 T aX.2)
 clear U ho hd O hg
 have O:=m.boxc (Yu ..)
 have d0:=m.cell
 have d7:=m.innc
 obtain⟨ay,hI⟩:=zx (ae T s).2.inn
 have HI:=zh hI
 rw [hI] at d7
 clear hI
 cases ay
 rotate_left
 ·go_wp2_with fail
  refine(KX.node (k:=0) (kind:=14) (m.ints1 _) (Yu ..) I.len HO rfl dQ (by simp)).mono ?_
  rintro H w9 ⟨v9,N9,dj,rfl,A,E⟩
  have HQ:=zh (KX.fin E A J (r':=eV T (NT T D n) s) (by rw [Af (.inl HI.out)];exact Eqv.refl _))
  clear A E
  go_wp2_with fail
  go_ret
  exact HQ
 ·go_wp2_with fail
  refine(KX.at (ws:=[[46],[40]]) (m.strs2 _ _ _) (Yu ..) (by decide)).mono ?_
  rintro H w2 ⟨rfl,U⟩
  have m:=zh (U.few (vi _ _))
  obtain⟨b2,hb⟩:=zx (atQ T [[46],[40]] (ae T s).2)
  rw [hb]
  have oY:Hid ((isQ T [46] (ae T s).2 || isQ T [40] (ae T s).2)=b2):=zh (by rw [<-hb,jW I.out (by decide)];simp)
  clear U hb O d0 d7
  have O:=m.boxc (Yu ..)
  have d0:=m.cell
  cases b2
  ·go_wp2_with fail
   refine(KX.node (k:=0) (kind:=14) (m.ints1 _) (Yu ..) I.len HO rfl dQ (by simp)).mono ?_
   rintro H w9 ⟨v9,N9,dj,rfl,A,E⟩
   have HQ:=zh (KX.fin E A J (r':=eV T (NT T D n) s) (by rw [Af (.inr (Bool.or_eq_false_iff.1 oY))];exact Eqv.refl _))
   clear A E
   go_wp2_with fail
   go_ret
   exact HQ
  ·have qm:=zh (F7 (T:=T) (s:=s) (nt:=NT T D n) (fun H=>by
    rcases H with H | H
    ·rw [HI.out] at H;cases H
    ·have h9:=oY.out;rw [H.1,H.2] at h9;cases h9))
   have m:=zh (m.ints1 v3)
   clear O d0
   have O:=m.boxc (Q1 _ (Yu ..))
   go_wp2_with fail
   refine(KX.atx (ws:=[[46]]) (m.strs1 _ _) ⟨_,by simp,Yu ..⟩ (by decide)).mono ?_
   rintro H w3 ⟨rfl,U⟩
   have m:=zh (U.few (vi _ _))
   obtain⟨b3,hb⟩:=zx (isQ T [46] (ae T s).2)
   rw [at_one I.out (by decide),hb]
   have FF:=zh hb
   clear U hb O
   cases b3
   ·obtain⟨B,vs,Qg,m,G,lF,J,Y⟩:∃(B:RT) (vs:List Int),Hid (dh T (ae T s)=B)/\Hid (KX b bb T D n ao vn w w3 B.2 B.2.i N1 xM [(.slice (some ⟨w2.heap.size,0,none⟩) 1 1,.ints vs),(nG R,pL b)])/\Hid (cD 1 N s B N1 vs)/\Hid (vs.length<=3)/\Hid (s.e≠0->B.2.e≠0)/\Hid (B.2.inn=false):=
     ⟨ae T s,[v3],zh (by unfold dh;rw [if_neg (by rw [FF.out];decide)]),m,zh HO.out.out,zh (by simp),J,HI⟩
    have O:=m.boxc (Q1 _ (Yu ..))
    go_wp2_with fail
    refine(KX.one1 [40] (m.strs1 _ _) I (by decide) ⟨_,rfl,Yu ..⟩).mono ?_
    rintro H w5 ⟨v5,N5,XY,rfl,U,ho,hd⟩
    have m:=zh (U.few (vi _ _));have Y:=zh ((aB T [40] B.2).inn.trans Y)
    obtain⟨l5,A8⟩:=zx (vs++[v5])
    have EW:Hid (l5.length<=4):=zh (by rw [<-A8,Q2];have:=lF.out;simp;omega)
    have G:Hid (cD 1 N s (de T B) N5 l5):=zh (by rw [<-A8];exact(G.app ho.out hd).weak (by decide));have J:Hid (s.e≠0->(de T B).2.e≠0):=zh (fun h=>hd (J h))
    have Ef:=zh A8
    clear U ho hd O A8
    go_wp2_with (at_builtin;go_loud (refine bD rfl _ _ rfl (m.ints1 v5) (vi _ _) rfl rfl (l2:=[v5]) rfl (qh _ _) (by have:=lF.out;omega) (by simp) ?_))
    intro aq w6 my
    rw [Ef.out] at my
    have m:Hid (KX b bb T D n ao vn w w6 (de T B).2 (de T B).2.i N5 XY [(aq,.ints l5),(nG R,pL b)]):=zh my
    have Y:Hid ((de T B).2.inn=false):=Y
    obtain⟨ak,hc⟩:=zx (de T B)
    have KP:=zh hc
    rw [hc] at m G J Y
    have XQ:Hid (ak.2.i<=T.length):=zh (Nat.le_of_lt m.ok)
    clear my hc
    have O:=m.boxc (Q1 _ (Yu ..))
    go_wp2_with fail
    refine(zB b bb T D n I _ ax (fun s hs=>((E0 s).inn).trans hs) m (Q1 _ (Yu ..)) Y).mono ?_
    rintro H w7 ⟨lv,ls,N7,QH,rfl,BH,GM,BR,uA⟩
    obtain⟨q7,c7,rfl,xI,-,-⟩:=BH.list (Yu ..)
    have m:=zh BH;have zQ:=zh xI;have BX:=zh uA
    obtain⟨l7,Ak⟩:=zx (l5++ls)
    have pJ:=zh Ak
    have fP:Hid (l7.length<=310):=zh (by rw [<-Ak,Q2];have:=EW.out;omega)
    have G:Hid (cD 1 N s (ak.1++(fi T (NT T D n).expr ak.2).1,(fi T (NT T D n).expr ak.2).2) N7 l7):=zh (by rw [<-Ak];exact(G.app GM BR).weak (by decide));have J:=zh (fun h=>BR (J h))
    obtain⟨m7,VO⟩:=zx ls.length
    have ap:=zh VO
    rw [VO] at m ⊢
    clear BH GM BR uA xI Ak VO O
    go_wp2_with (at_builtin;go_loud (refine bD rfl _ _ rfl m (vi _ _) rfl rfl (l2:=ls) ap zQ (by have:=EW.out;omega) (by have:=BX.out;omega) ?_))
    intro au w8 yC
    rw [pJ.out] at yC
    have m:=zh yC;have av:Hid ((nG R,pL b)∈[(au,Th.ints l7),(nG R,pL b)]):=zh (Q1 _ (Yu ..))
    clear yC
    go_wp2_with fail
    have bM:=m
    have m:=zh m.drew
    have eu:Hid ([41]∈KS):=zh (by decide)
    go_region_held3 (fun w'=>w'.cell? ⟨R,0,none⟩=some (.pointer (some ⟨b,0,none⟩))/\w'.cell? ⟨b,0,none⟩=some (.pointer (some ⟨bb,0,none⟩))) (first | exact⟨m.boxc (by first | exact(Q1 _ (Yu ..)) | exact(Q1 _ (Q1 _ (Yu ..)))),m.cell⟩ | exact⟨(m.alloc _).boxc (by first | exact(Q1 _ (Yu ..)) | exact(Q1 _ (Q1 _ (Yu ..)))),(m.alloc _).cell⟩ | exact⟨(bM.alloc _).drew.boxc (by first | exact(Q1 _ (Yu ..)) | exact(Q1 _ (Q1 _ (Yu ..)))),(bM.alloc _).drew.cell⟩ | exact⟨((m.alloc _).alloc _).boxc (by first | exact(Q1 _ (Yu ..)) | exact(Q1 _ (Q1 _ (Yu ..)))),((m.alloc _).alloc _).cell⟩)
     (first
      | (refine oy rfl _ _ rfl ((m.few (vi _ _)).ints1 _) (vi _ _) rfl rfl (l2:=[_]) rfl (qh _ _) (by have:=fP.out;omega) (by simp) ?_;intro v8 w9 A;have m:=zh A;clear A)
      | (go_at_call 78;(with_reducible first | refine(KX.one1 [41] (m.out.strs1 _ _) I.out eu.out ?_).mono ?_ | refine(KX.one1 [41] (bM.out.strs1 _ _).drew I.out eu.out ?_).mono ?_);(refine⟨_,?_,Yu ..⟩;first | rfl | (simp;done));rintro H w9 ⟨v9,N9,dj,rfl,A,E,Z⟩;have m:=zh A;have HD:=zh (aZ.app G.out E Z);clear A E Z)
      | (go_at_call 50;have lR:=zh (HD.weak (j:=0+1) (by decide));refine(KX.node (k:=0) (kind:=13) m.out ?_ I.len lR.out ?_ dQ.out ?_).mono ?_;exact Yu ..;rfl;(have:=fP.out;rw [Q2];simp;omega);rintro H w9 ⟨v9,N9,dj,rfl,A,E⟩;have m:=zh A;have HZ:=zh E;clear A E))
    all_goals
     have HQ:=zh (KX.fin HZ m (fun he=>absurd aX.2 he) (r':=eV T (NT T D n) s) (by rw [qm.out,Qg.out,KP.out];exact Dm (Eqv.refl _) (Ur ak.2 XQ)))
     go_wp2_with fail
     go_ret
     exact HQ
   ·have TO:=zh (ah FF)
    go_wp2_with fail
    have bM:=m
    have m:=zh m.drew
    have G:=zh HO.out.out
    have av:Hid ((nG R,pL b)∈[(.slice (some ⟨w2.heap.size,0,none⟩) 1 1,Th.ints [v3]),(nG R,pL b)]):=zh (Q1 _ (Yu ..))
    go_region_held3 (fun w'=>w'.cell? ⟨R,0,none⟩=some (.pointer (some ⟨b,0,none⟩))) (first | exact m.boxc (Q1 _ (Yu ..)) | exact(m.alloc _).boxc (Q1 _ (Yu ..)))
     (first
      | (refine oy rfl _ _ rfl (m.ints2 _ _) (vi _ _) rfl rfl (l2:=[_,_]) rfl (afu _ _ _) (by simp) (by simp) ?_;intro aJ w9 A;have m:=zh A;clear A)
      | (go_at_call 79;(with_reducible refine(m.out.take I.out TO.out.1 TO.out.2).mono ?_);rintro H w9 ⟨v9,N9,dj,rfl,A,E,Z⟩;have m:=zh A;have G:=zh (G.out.app E.out Z);clear A E Z)
      | (go_at_call 51;(with_reducible refine(m.out.word I.out).mono ?_);rintro H w9 ⟨v9,N9,dj,rfl,A,E,Z⟩;have m:=zh A;have G:=zh (G.out.app E.out Z);clear A E Z))
    all_goals
     obtain⟨B,vs,Qg,m,G,lF,J,Y⟩:∃(B:RT) (vs:List Int),Hid (dh T (ae T s)=B)/\Hid (KX b bb T D n ao vn w w9 B.2 B.2.i N9 dj [(aJ,.ints vs),(nG R,pL b)])/\Hid (cD 1 N s B N9 vs)/\Hid (vs.length<=3)/\Hid (s.e≠0->B.2.e≠0)/\Hid (B.2.inn=false):=
      ⟨((ae T s).1++(ae T (ae T s).2).1++(aM T 1 (ae T (ae T s).2).2).1,(aM T 1 (ae T (ae T s).2).2).2),_,zh (by unfold dh;rw [if_pos FF.out]),m,zh (by have h9:=G.weak (j:=1) (by decide);rw [append_assoc [v3]] at h9;exact h9),zh (by simp),zh (fun h=>absurd aX.2 h),zh ((bY T 1 _).inn.trans ((aA T TO.2).inn.trans HI))⟩
     have O:=m.boxc (Q1 _ (Yu ..))
     go_wp2_with fail
     refine(KX.one1 [40] (m.strs1 _ _) I (by decide) ⟨_,rfl,Yu ..⟩).mono ?_
     rintro H w5 ⟨v5,N5,XY,rfl,U,ho,hd⟩
     have m:=zh (U.few (vi _ _));have Y:=zh ((aB T [40] B.2).inn.trans Y)
     obtain⟨l5,A8⟩:=zx (vs++[v5])
     have EW:Hid (l5.length<=4):=zh (by rw [<-A8,Q2];have:=lF.out;simp;omega)
     have G:Hid (cD 1 N s (de T B) N5 l5):=zh (by rw [<-A8];exact(G.app ho.out hd).weak (by decide));have J:Hid (s.e≠0->(de T B).2.e≠0):=zh (fun h=>hd (J h))
     have Ef:=zh A8
     clear U ho hd O A8
     go_wp2_with (at_builtin;go_loud (refine bD rfl _ _ rfl (m.ints1 v5) (vi _ _) rfl rfl (l2:=[v5]) rfl (qh _ _) (by have:=lF.out;omega) (by simp) ?_))
     intro aq w6 my
     rw [Ef.out] at my
     have m:Hid (KX b bb T D n ao vn w w6 (de T B).2 (de T B).2.i N5 XY [(aq,.ints l5),(nG R,pL b)]):=zh my
     have Y:Hid ((de T B).2.inn=false):=Y
     obtain⟨ak,hc⟩:=zx (de T B)
     have KP:=zh hc
     rw [hc] at m G J Y
     have XQ:Hid (ak.2.i<=T.length):=zh (Nat.le_of_lt m.ok)
     clear my hc
     have O:=m.boxc (Q1 _ (Yu ..))
     go_wp2_with fail
     refine(zB b bb T D n I _ ax (fun s hs=>((E0 s).inn).trans hs) m (Q1 _ (Yu ..)) Y).mono ?_
     rintro H w7 ⟨lv,ls,N7,QH,rfl,BH,GM,BR,uA⟩
     obtain⟨q7,c7,rfl,xI,-,-⟩:=BH.list (Yu ..)
     have m:=zh BH;have zQ:=zh xI;have BX:=zh uA
     obtain⟨l7,Ak⟩:=zx (l5++ls)
     have pJ:=zh Ak
     have fP:Hid (l7.length<=310):=zh (by rw [<-Ak,Q2];have:=EW.out;omega)
     have G:Hid (cD 1 N s (ak.1++(fi T (NT T D n).expr ak.2).1,(fi T (NT T D n).expr ak.2).2) N7 l7):=zh (by rw [<-Ak];exact(G.app GM BR).weak (by decide));have J:=zh (fun h=>BR (J h))
     obtain⟨m7,VO⟩:=zx ls.length
     have ap:=zh VO
     rw [VO] at m ⊢
     clear BH GM BR uA xI Ak VO O
     go_wp2_with (at_builtin;go_loud (refine bD rfl _ _ rfl m (vi _ _) rfl rfl (l2:=ls) ap zQ (by have:=EW.out;omega) (by have:=BX.out;omega) ?_))
     intro au w8 yC
     rw [pJ.out] at yC
     have m:=zh yC;have av:Hid ((nG R,pL b)∈[(au,Th.ints l7),(nG R,pL b)]):=zh (Q1 _ (Yu ..))
     clear yC
     go_wp2_with fail
     have bM:=m
     have m:=zh m.drew
     have eu:Hid ([41]∈KS):=zh (by decide)
     go_region_held3 (fun w'=>w'.cell? ⟨R,0,none⟩=some (.pointer (some ⟨b,0,none⟩))/\w'.cell? ⟨b,0,none⟩=some (.pointer (some ⟨bb,0,none⟩))) (first | exact⟨m.boxc (by first | exact(Q1 _ (Yu ..)) | exact(Q1 _ (Q1 _ (Yu ..)))),m.cell⟩ | exact⟨(m.alloc _).boxc (by first | exact(Q1 _ (Yu ..)) | exact(Q1 _ (Q1 _ (Yu ..)))),(m.alloc _).cell⟩ | exact⟨(bM.alloc _).drew.boxc (by first | exact(Q1 _ (Yu ..)) | exact(Q1 _ (Q1 _ (Yu ..)))),(bM.alloc _).drew.cell⟩ | exact⟨((m.alloc _).alloc _).boxc (by first | exact(Q1 _ (Yu ..)) | exact(Q1 _ (Q1 _ (Yu ..)))),((m.alloc _).alloc _).cell⟩)
      (first
       | (refine oy rfl _ _ rfl ((m.few (vi _ _)).ints1 _) (vi _ _) rfl rfl (l2:=[_]) rfl (qh _ _) (by have:=fP.out;omega) (by simp) ?_;intro v8 w9 A;have m:=zh A;clear A)
       | (go_at_call 78;(with_reducible first | refine(KX.one1 [41] (m.out.strs1 _ _) I.out eu.out ?_).mono ?_ | refine(KX.one1 [41] (bM.out.strs1 _ _).drew I.out eu.out ?_).mono ?_);(refine⟨_,?_,Yu ..⟩;first | rfl | (simp;done));rintro H w9 ⟨v9,N9,dj,rfl,A,E,Z⟩;have m:=zh A;have HD:=zh (aZ.app G.out E Z);clear A E Z)
       | (go_at_call 50;have lR:=zh (HD.weak (j:=0+1) (by decide));refine(KX.node (k:=0) (kind:=13) m.out ?_ I.len lR.out ?_ dQ.out ?_).mono ?_;exact Yu ..;rfl;(have:=fP.out;rw [Q2];simp;omega);rintro H w9 ⟨v9,N9,dj,rfl,A,E⟩;have m:=zh A;have HZ:=zh E;clear A E))
     all_goals
      have HQ:=zh (KX.fin HZ m (fun he=>absurd aX.2 he) (r':=eV T (NT T D n) s) (by rw [qm.out,Qg.out,KP.out];exact Dm (Eqv.refl _) (Ur ak.2 XQ)))
      go_wp2_with fail
      go_ret
      exact HQ
end
end Go.Proofs.YtpkipghjohomcaaGreatDoor
