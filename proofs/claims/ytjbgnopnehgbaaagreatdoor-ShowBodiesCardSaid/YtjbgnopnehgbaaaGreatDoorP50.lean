/- Lemmas. -/
import Derived.Test.YtjbgnopnehgbaaaGreatDoorP42
import Derived.Test.YtjbgnopnehgbaaaGreatDoorP49
set_option linter.unusedVariables false
set_option linter.unusedSimpArgs false
namespace Go.Proofs.YtjbgnopnehgbaaaGreatDoor
open Go.RowKit
theorem bj.weak {S S2:Nat→Prop} {B b:Nat} {w:World} {rows:List (List Value)} (h:bj S2 B b w rows) (hS:∀k,S k→S2 k):bj S B b w rows:=by
 obtain⟨v,hb,hO,kK,hB,p8,pK,mp⟩:=h
 exact⟨v,hb,hO,kK,hB,fun e=>p8 (hS _ e),fun k hk e=>pK k hk (hS _ e),fun k hk=>mp k (hS _ hk)⟩
theorem bj.len0 {S:Nat→Prop} {B b:Nat} {w:World} {rows:List (List Value)} (h:bj S B b w rows):∃p c,w.cell? ⟨b,0,none⟩=some (.slice p rows.length c):=by
 obtain⟨v,hb,hO,-⟩:=h
 obtain⟨p,c,rfl,-⟩:=hO.is
 exact⟨p,c,by rw [cell_of_row w b 0 _ _ (0,0) hb];rfl⟩
def af3 (S F:Nat→Prop) (B b bb:Nat) (R0 R1:List (List Value)) (l:List Pc) (out:List Value) (w:World) (e:Ending) (w':World):Prop:=e=.returned (.tuple #[])∧bj S B b w' (R0++R1.reverse)∧bp F w' l.reverse R1.reverse∧pe bb out w'∧Fr2 (fun k=>¬S k) w w'
theorem Tu (S F:Nat→Prop) (B b bb g n cap bH:Nat) (R0 R1:List (List Value)) (l:List Pc) (out:List Value) (w:World) (h:bj S B b w (R0++R1)) (hp:bp F w l R1) (hF:∀k,F k→S k) (vm:pe bb out w) (c0:w.cell? ⟨b,0,none⟩=some (.slice (some ⟨g,0,none⟩) n cap)) (hl:R1.length≤1000000):
  Calls Tryz.prog 67 #[.slice (some ⟨g,R0.length*3,none⟩) R1.length bH] w (af3 S F B b bb R0 R1 l out w):=by
 obtain⟨d,rfl,hd⟩:=Fj hp
 obtain⟨S2,rG,hW2,hk⟩:=h.bld vm
 have:=XX S2 B b R0 d g n cap bH w hW2 c0 (by rw [List.length_map] at hl;exact hl)
 rw [List.length_map]
 refine this.mono ?_
 rintro e w' ⟨rfl,hw,hf⟩
 have dK:Fr2 (fun k=>¬S k) w w':=hf.mono (fun k e h=>e (rG k h))
 rw [List.map_reverse] at hw
 exact⟨rfl,hw.weak rG,(hp.rev).same dK (fun k hk e=>e (hF k hk)),hk _ hf,dK⟩
def acb (S F:Nat→Prop) (B b bb:Nat) (rows:List (List Value)) (ps:List Pc) (out:List Value) (w:World) (e:Ending) (w':World):Prop:=e=.returned (.tuple #[])∧∃R,bj S B b w' (rows++R)∧bp F w' ps R∧pe bb out w'∧Fr2 (fun k=>¬S k) w w'
theorem Wb (S F:Nat→Prop) (B b bb:Nat) (rows:List (List Value)) (x:Sx) (least g o:Nat) (out:List Value) (w:World) (h:bj S B b w rows) (hl:rows.length≤600000) (hp:oT F w (.ex x least) (jx g o ((least:Nat):Int))) (yH:ll x) (hF:∀k,F k→S k) (hSg:S 5) (cg:fW w) (vm:pe bb out w):
  Calls Tryz.prog 68 #[.pointer (some ⟨b,0,none⟩),.pointer (some ⟨g,o,none⟩),.int .i64 least] w (acb S F B b bb rows (gQ x least) out w):=by
 obtain⟨S2,rG,hW2,hk⟩:=h.bld vm
 obtain⟨g',o',q,he,hFg,rP,hx,hc⟩:=hp
 simp only [jx,List.cons.injEq,Value.pointer.injEq,Option.some.injEq,Addr.mk.injEq,and_true,true_and] at he
 obtain⟨rfl,rfl⟩:=he
 cases x with
 | mk op nm md nu ys ks ps=>
   simp only [ll] at yH
   obtain⟨⟨a1,a2,a3,a4,a5,a6⟩,-⟩:=yH
   refine(PM S2 F B b rows g o least (.mk op nm md nu ys ks ps) q w hW2 hl (fun k hk=>rG k (hF k hk)) (rG _ hSg) cg hx (rG _ (hF _ hFg)) hc a1 a2 a3 ⟨a4,a5,a6⟩).mono ?_
   rintro e w' ⟨rfl,R,hw,hp,hf⟩
   exact⟨rfl,R,hw.weak rG,hp,hk _ hf,hf.mono (fun k e h=>e (rG k h))⟩
theorem acj {S F:Nat→Prop} {B b bb g n cap:Nat} {w:World} {R0:List (List Value)} {q:List Value} {l:List Pc} {p:Pc} {out:List Value} (h:bj S B b w (R0++[q])) (ZG:bp F w l R0) (iE:oT F w p q) (hF:∀k,F k→S k) (vm:pe bb out w) (c0:w.cell? ⟨b,0,none⟩=some (.slice (some ⟨g,0,none⟩) n cap)):
  bj S B b ((w.setCell ⟨b,0,none⟩ (.slice (some ⟨g,0,none⟩) R0.length cap)).alloc (.cells q.toArray 140)) R0∧bp F ((w.setCell ⟨b,0,none⟩ (.slice (some ⟨g,0,none⟩) R0.length cap)).alloc (.cells q.toArray 140)) l R0∧oT F ((w.setCell ⟨b,0,none⟩ (.slice (some ⟨g,0,none⟩) R0.length cap)).alloc (.cells q.toArray 140)) p q∧pe bb out ((w.setCell ⟨b,0,none⟩ (.slice (some ⟨g,0,none⟩) R0.length cap)).alloc (.cells q.toArray 140))∧Fr2 (fun k=>¬S k) w ((w.setCell ⟨b,0,none⟩ (.slice (some ⟨g,0,none⟩) R0.length cap)).alloc (.cells q.toArray 140))∧((w.setCell ⟨b,0,none⟩ (.slice (some ⟨g,0,none⟩) R0.length cap)).alloc (.cells q.toArray 140)).heap[w.heap.size]? = some (.cells q.toArray 140 (0,0))∧b<w.heap.size:=by
 obtain⟨S2,rG,hW2,hk⟩:=h.bld vm
 have mV:b<w.heap.size:=by obtain⟨v,hb,-⟩:=h;exact hlt hb
 obtain⟨h3,fI⟩:=hW2.pop c0
 have dG:=World.grownBy_alloc (w.setCell ⟨b,0,none⟩ (.slice (some ⟨g,0,none⟩) R0.length cap)) (.cells q.toArray 140) none
 have hf:Fr2 (fun k=>¬S2 k) w _:=fI.trans (Fr2.none dG)
 have kM:Fr2 (fun k=>¬S k) w _:=hf.mono (fun k e h=>e (rG k h))
 have db:(w.setCell ⟨b,0,none⟩ (.slice (some ⟨g,0,none⟩) R0.length cap)).heap.size=w.heap.size:=by simp
 refine⟨(h3.kept dG).weak rG,ZG.same kM (fun k hk e=>e (hF k hk)),iE.same kM (fun k hk e=>e (hF k hk)),hk _ hf,kM,?_,mV⟩
 rw [←db]
 exact heap_alloc_new _ _
theorem bj.last {S:Nat→Prop} {B b g n cap:Nat} {w:World} {R0:List (List Value)} {q:List Value} (h:bj S B b w (R0++[q])) (c0:w.cell? ⟨b,0,none⟩=some (.slice (some ⟨g,0,none⟩) n cap)):
  n=R0.length+1∧∀i v,q[i]? = some v→w.cell? ⟨g,R0.length*3+i,none⟩=some v:=by
 obtain⟨v,hb,hO,kK,hB,p8,pK,mp⟩:=h
 rw [cell_of_row w b 0 _ _ (0,0) hb] at c0
 have c0:v=.slice (some ⟨g,0,none⟩) n cap:=Option.some.inj c0
 subst c0
 exact⟨hO.popS.1,fun i v hi=>hO.cellS (j:=R0.length) (by simp) hi⟩
theorem Oo {α : Type} {c:Prop} [Decidable c] {a b:List α} (ha:a≠[]) (hb:b≠[]):(if c then a else b)≠[]:=by
 split
 ·exact ha
 ·exact hb
theorem MX (x:Sx) (least:Nat):gQ x least≠[]:=by
 cases x with
 | mk op nm md nu ys ks ps=>
   unfold gQ
   refine Oo (by simp) ?_
   simp only [fR]
   repeat' (first | exact List.cons_ne_nil _ _ | refine Oo ?_ ?_)
   simp
theorem Ew (p:Pc):1≤wgP p:=by
 cases p with
 | bs s=>exact Nat.le_refl _
 | ex x l=>cases x with | mk op nm md nu ys ks ps=>simp only [wgP,wgS];omega
theorem sX:∀l:List Pc,l.length≤eP l
 | []=>Nat.le_refl _
 | p::l=>by
   have h1:=sX l
   have h2:=Ew p
   rw [ja,List.length_cons];omega
theorem Kj {x:Sx} (h:ll x) (least:Nat):eP (gQ x least)<wgS x:=by
 cases x with
 | mk op nm md nu ys ks ps=>
   simp only [ll] at h
   exact Qb (x:=.mk op nm md nu ys ks ps) least h.1.1 h.1.2.1 h.1.2.2.1
theorem Mc {x:Sx} (h:ll x) (least:Nat):bu (gQ x least)=ji x least:=by
 cases x with
 | mk op nm md nu ys ks ps=>
   simp only [ll] at h
   exact ID (x:=.mk op nm md nu ys ks ps) least h.1.1 h.1.2.1 h.1.2.2.1
set_option maxHeartbeats 16000000
set_option maxRecDepth 100000
theorem Du (a b:List Pc):bu (a++b)=bu a++bu b:=by simp [bu]
theorem RU (S F:Nat→Prop) (B b:Nat) (rows:List (List Value)) (l:List Pc) (w:World) (h:bj S B b w rows) (hp:bp F w l rows) (h0:rows≠[]) (hW:eP l≤500000) (nA:rows.length≤500000) (hF:∀k,F k→S k) (hSg:S 5) (cg:fW w) (Up:∀p∈l,mi p) (hT:(bu l).length≤1000000000):
  Calls Tryz.prog 37 #[.pointer (some ⟨b,0,none⟩)] w (fun e w'=>e=.returned (.string ⟨(bu l).toArray⟩)∧Fr2 (fun k=>¬S k) w w'):=by
 obtain⟨g,cap,cb,hBg,rP,aga,kK,DX,SX⟩:=h.cell h0
 have hg:=World.grownBy_alloc w (.cells #[.pointer none,.slice none 0 0] 80) none
 have vm:=yR w w.heap.size (Nat.le_refl _)
 have mp:∀k,S k→k<w.heap.size:=by obtain⟨v,-,-,-,-,-,-,hh⟩:=h;exact hh
 have c1:=hg.cell cb (by simp)
 have db:(w.alloc (.cells #[.pointer none,.slice none 0 0] 80)).heap.size=w.heap.size+1:=by simp
 have aaT:=zh (Tu S F B b w.heap.size g rows.length cap cap [] rows l [] _ (h.kept hg) (hp.same (S:=fun _=>False) (Fr2.none hg) (fun _ _ h=>h)) hF vm c1 (by omega))
 have HG:=zh hg;have Jl:=zh mp;have HF:=zh hF;have RE:=zh hSg;have Z8:=zh Up;have HT:=zh hT
 have gf:Hid (∀W,Fr2 (fun k=>¬S k) w W→fW W):=zh (fun W hf=>cg.same hf hSg (mp _ hSg))
 have mD:Hid (b<w.heap.size):=zh (by obtain⟨v,hb,-⟩:=h;exact hlt hb)
 obtain⟨T,Jy⟩:∃T,bu l=T:=⟨_,rfl⟩
 have OK:=zh Jy
 rw [Jy]
 have mV:=mD.out
 clear h hp h0 hF hSg cg Up hT hg vm mp cb hBg aga kK DX SX Jy rP
 go_enter Tryz.func37,Tryz.ntmps37
 go_wp2_with fail
 refine aaT.out.mono ?_
 rintro e w2 ⟨rfl,eE,ee,dC,dK⟩
 have kL:=zh eE;have Jm:=zh ee;have fu:=zh dC;have es:=zh ((Fr2.none HG.out).trans dK)
 have T1:Hid (w.heap.size<w2.heap.size):=zh (by have:=dK.size;rw [db] at this;omega)
 clear eE ee dC dK c1 db HG
 obtain⟨bb,As⟩:∃bb,w.heap.size=bb:=⟨_,rfl⟩
 have fL:=zh As
 rw [As] at fu T1 ⊢
 clear As aaT mV
 go_wp2_with fail
 go_loopg [4,5] (eP l) (fun gk sv tv wr=>∃st out R,eP st≤gk∧gk≤500000∧Hid (bj S B b wr R)∧Hid (bp F wr st.reverse R)∧Hid (pe bb (Lib.byteCells out) wr)∧Hid (out++bu st=T)∧Hid (Fr2 (fun k=>¬S k) w wr)∧Hid (∀p∈st,mi p)∧Hid (bb<wr.heap.size))
 case atStart=>exact⟨l,[],rows.reverse,Nat.le_refl _,hW,kL,Jm,fu,zh (by rw [OK.out];rfl),es,Z8,T1⟩
 case round=>
  obtain⟨st,out,R,YY,Su,GS,AD,Jn,E9,Ge,Oy,HZR⟩:=hrel
  rcases st with _ | ⟨p,Sm⟩
  ·obtain⟨p0,k0,c0⟩:=GS.out.len0
   have hR:R.length=0:=AD.out.len
   rw [hR] at c0
   have MM:=zh (Tryz.Builder_String_any_k bb bb _ wr (Lib.IsBuilderF.of Jn.out) (Nat.le_of_lt HZR.out))
   have XN:b<wr.heap.size:=zn mD.out Ge.out.size
   clear YY Su hR AD Jn GS HZR Oy
   clear hW nA
   go_upto_region 11 with fail
   go_wp2_with fail
   refine MM.out.mono ?_
   rintro e w7 ⟨rfl,-,BP,-⟩
   have HF7:=zh (Ge.out.trans (Bn BP (fun k hk=>by have:=Jl.out k hk;rw [fL.out] at this;exact this)))
   clear BP
   go_wp2_with fail
   go_ret
   have YN:T=out:=by have:=E9.out;rw [show bu ([]:List Pc) = [] from rfl,List.append_nil] at this;exact this.symm
   exact⟨by rw [YN];rfl,HF7.out⟩
  ·obtain⟨R0,q0,rfl,ZG,Jx⟩:∃R0 q0,R=R0++[q0]∧bp F wr Sm.reverse R0∧oT F wr p q0:=by
    have:=AD.out
    rw [List.reverse_cons] at this
    obtain⟨r1,r2,rfl,h1,h2⟩:=this.split
    obtain⟨q,r',rfl,h3,h4⟩:=h2
    have h4:r' = []:=h4
    subst h4
    exact⟨r1,q,rfl,h1,h3⟩
   obtain⟨g2,nr,c0,-,Zs,-,-,TY,SX⟩:=GS.out.cell (by simp)
   obtain⟨qC,hlc⟩:=GS.out.last c0
   obtain⟨q00,q01,q02,rfl⟩:∃a b c,q0 = [a,b,c]:=by
    cases p with
    | bs s=>exact⟨_,_,_,Jx⟩
    | ex x least=>obtain⟨g,o,q,h,-⟩:=Jx;exact⟨_,_,_,h⟩
   have pX:=zh (acj GS.out ZG Jx HF.out Jn.out c0)
   have a0:=hlc 0 _ rfl
   have a1:=hlc 1 _ rfl
   have a2:=hlc 2 _ rfl
   obtain⟨L,hL⟩:∃L,R0.length=L:=⟨_,rfl⟩
   have Mu:=ja p Sm
   have hLb:L+1≤500000:=by
    have h1:=ZG.len
    rw [List.length_reverse,hL] at h1
    have h2:=sX Sm
    have h3:=Ew p
    omega
   rw [qC,hL] at c0
   rw [hL] at a0 a1 a2 pX
   rw [Nat.add_zero] at a0
   obtain⟨n1,CU⟩:∃n1,L+1=n1:=⟨_,rfl⟩
   rw [CU] at c0
   have rC:IntKind.i64.wrap ((n1:Int) - 1)=(L:Int):=by rw [IntWalk.i64_in _ (by omega)];omega
   have x1:(0:Int)≤(L:Int):=by omega
   have x2:(L:Int)<(n1:Int):=by omega
   have x3:decide (L<n1)=true:=zd (by omega)
   have x4:decide ((L:Int)<(n1:Int))=true:=zd x2
   have x5:decide ((0:Int)<(n1:Int))=true:=zd (by omega)
   have x6:decide (0<n1)=true:=zd (by omega)
   have XN:b<wr.heap.size:=zn mD.out Ge.out.size
   have y1:L≤nr:=by rw [List.length_append,hL] at TY;omega
   have y2:(L:Int)≤(nr:Int):=by omega
   have y3:¬((nr:Int)<(L:Int)):=by omega
   clear TY
   have HL:=zh hL
   have rz:=zh CU
   have Vl:=zh YY;have HGK:=zh Su;have HWG:=zh Mu
   clear ZG Jx qC hlc YY Su Mu hW nA GS AD Jn hL CU
   cases p with
   | bs s=>
     have vE:=pX.out.2.2.1
     obtain⟨sb,YM⟩:∃sb:ByteArray,(⟨s.toArray⟩:ByteArray)=sb:=⟨_,rfl⟩
     have vE : [q00,q01,q02] = [.string ⟨s.toArray⟩,.pointer none,.int .i64 0]:=vE
     rw [YM] at vE
     simp only [List.cons.injEq,and_true] at vE
     obtain⟨rfl,rfl,rfl⟩:=vE
     have Cy:=zh YM
     clear YM
     go_upto_region 7 with fail
     obtain⟨mO,CX,-,ig,fI,DR,-⟩:=pX.out
     change bj S B b ((wr.setCell ⟨b,0,none⟩ (.slice (some ⟨g2,0,none⟩) L nr)).alloc (.cells #[.string sb,.pointer none,.int .i64 0] 140)) R0 at mO
     change bp F ((wr.setCell ⟨b,0,none⟩ (.slice (some ⟨g2,0,none⟩) L nr)).alloc (.cells #[.string sb,.pointer none,.int .i64 0] 140)) _ R0 at CX
     change pe bb _ ((wr.setCell ⟨b,0,none⟩ (.slice (some ⟨g2,0,none⟩) L nr)).alloc (.cells #[.string sb,.pointer none,.int .i64 0] 140)) at ig
     change Fr2 _ wr ((wr.setCell ⟨b,0,none⟩ (.slice (some ⟨g2,0,none⟩) L nr)).alloc (.cells #[.string sb,.pointer none,.int .i64 0] 140)) at fI
     change ((wr.setCell ⟨b,0,none⟩ (.slice (some ⟨g2,0,none⟩) L nr)).alloc (.cells #[.string sb,.pointer none,.int .i64 0] 140)).heap[wr.heap.size]? = some (.cells #[.string sb,.pointer none,.int .i64 0] 140 (0,0)) at DR
     clear pX kL Jm fu es T1
     generalize ((wr.setCell ⟨b,0,none⟩ (.slice (some ⟨g2,0,none⟩) L nr)).alloc (.cells #[.string sb,.pointer none,.int .i64 0] 140))=w3 at *
     obtain⟨d0,d1,d2,-⟩:=cells3 DR
     have tA:=zh mO;have ES:=zh CX;have wP:=zh ig;have jp:=zh (Ge.out.trans fI)
     have YW:Hid (bb<w3.heap.size):=zh (zn HZR.out fI.size)
     have ab2:Hid ((Lib.byteCells out).length+sb.size≤140737488355328):=zh (by
      have h1:=congrArg List.length E9.out
      have h2:=HT.out
      rw [OK.out,←h1] at h2
      have h3:sb.size=s.length:=by rw [←Cy.out];rfl
      rw [Lib.byteCells_length,h3]
      simp only [bu,List.flatMap_cons,gL,List.length_append] at h2
      omega)
     clear mO CX ig fI DR c0 a0 a1 a2 SX x1 x2 x3 x4 x5 x6 y1 y2 y3 rC Zs XN Ge
     obtain⟨nb,WH⟩:∃nb,wr.heap.size=nb:=⟨_,rfl⟩
     rw [WH] at d0 d1 d2 ⊢
     clear WH
     go_wp2_with fail
     refine(fA bb bb _ sb _ wP.out ab2.out (Nat.le_of_lt YW.out)).mono ?_
     rintro e w4 ⟨rfl,⟨Yv,UA⟩,hok4⟩
     have VK:=zh (tA.out.wrote hok4 UA (fun _=>wP.out.cells))
     have qF:Fr2 (fun k=>¬S k) w3 w4:=Bn UA (fun k hk=>by have:=Jl.out k hk;rw [fL.out] at this;exact this)
     have YH:=zh (ES.out.same qF (fun k hk e=>e (HF.out k hk)))
     have vj:=zh (jp.out.trans qF)
     have HZ4:Hid (bb<w4.heap.size):=zh (zn YW.out qF.size)
     have Ju:Hid (pe bb (Lib.byteCells (out++s)) w4):=zh (.inr (by rw [Lib.byteCells_append];rw [←Cy.out] at Yv;exact Yv))
     clear Yv UA hok4 qF d0 d1 d2 tA ES wP jp YW ab2
     go_wp2_with fail
     go_roundg (eP Sm)
     case rel=>exact⟨Sm,out++s,R0,Nat.le_refl _,by have h1:=Vl.out;have h2:=HWG.out;have h3:=HGK.out;omega,VK,YH,Ju,zh (by rw [←E9.out];simp [bu,gL]),vj,zh (fun p hp=>Oy.out p (List.mem_cons_of_mem _ hp)),HZ4⟩
     case measure=>have h1:=Vl.out;have h2:=HWG.out;simp only [wgP] at h2;omega
   | ex x least=>
     have vE:=pX.out.2.2.1
     obtain⟨gx,ox,qx,vE,-⟩:=vE
     simp only [jx,List.cons.injEq,and_true] at vE
     obtain⟨rfl,rfl,rfl⟩:=vE
     go_upto_region 7 with fail
     obtain⟨mO,CX,Ox,ig,fI,DR,-⟩:=pX.out
     change bj S B b ((wr.setCell ⟨b,0,none⟩ (.slice (some ⟨g2,0,none⟩) L nr)).alloc (.cells #[.string ⟨#[]⟩,.pointer (some ⟨gx,ox,none⟩),.int .i64 (least:Int)] 140)) R0 at mO
     change bp F ((wr.setCell ⟨b,0,none⟩ (.slice (some ⟨g2,0,none⟩) L nr)).alloc (.cells #[.string ⟨#[]⟩,.pointer (some ⟨gx,ox,none⟩),.int .i64 (least:Int)] 140)) _ R0 at CX
     change oT F ((wr.setCell ⟨b,0,none⟩ (.slice (some ⟨g2,0,none⟩) L nr)).alloc (.cells #[.string ⟨#[]⟩,.pointer (some ⟨gx,ox,none⟩),.int .i64 (least:Int)] 140)) _ _ at Ox
     change pe bb _ ((wr.setCell ⟨b,0,none⟩ (.slice (some ⟨g2,0,none⟩) L nr)).alloc (.cells #[.string ⟨#[]⟩,.pointer (some ⟨gx,ox,none⟩),.int .i64 (least:Int)] 140)) at ig
     change Fr2 _ wr ((wr.setCell ⟨b,0,none⟩ (.slice (some ⟨g2,0,none⟩) L nr)).alloc (.cells #[.string ⟨#[]⟩,.pointer (some ⟨gx,ox,none⟩),.int .i64 (least:Int)] 140)) at fI
     change ((wr.setCell ⟨b,0,none⟩ (.slice (some ⟨g2,0,none⟩) L nr)).alloc (.cells #[.string ⟨#[]⟩,.pointer (some ⟨gx,ox,none⟩),.int .i64 (least:Int)] 140)).heap[wr.heap.size]? = some (.cells #[.string ⟨#[]⟩,.pointer (some ⟨gx,ox,none⟩),.int .i64 (least:Int)] 140 (0,0)) at DR
     clear pX kL Jm fu es T1
     generalize ((wr.setCell ⟨b,0,none⟩ (.slice (some ⟨g2,0,none⟩) L nr)).alloc (.cells #[.string ⟨#[]⟩,.pointer (some ⟨gx,ox,none⟩),.int .i64 (least:Int)] 140))=w3 at *
     obtain⟨d0,d1,d2,-⟩:=cells3 DR
     have Ys:ll x:=Oy.out (.ex x least) List.mem_cons_self
     have Xp:=Ge.out.trans fI
     have TM:=zh (Wb S F B b bb R0 x least gx ox (Lib.byteCells out) w3 mO (by have:=HL.out;omega) Ox Ys HF.out RE.out (gf.out _ Xp) ig)
     have ES:=zh CX;have jp:=zh Xp
     have YW:Hid (bb<w3.heap.size):=zh (zn HZR.out fI.size)
     have wb:=zh Ys
     have hL2:L+1≤500000:=hLb
     clear mO CX Ox ig fI DR c0 a0 a1 a2 SX x1 x2 x3 x4 x5 x6 y1 y2 y3 rC Zs XN Ge Ys Xp hLb
     obtain⟨nb,WH⟩:∃nb,wr.heap.size=nb:=⟨_,rfl⟩
     rw [WH] at d0 d1 d2 ⊢
     clear WH
     go_wp2_with fail
     refine TM.out.mono ?_
     rintro e w4 ⟨rfl,R1,GX,ZJ,Yv,qF⟩
     have bB:=ZJ.len
     have Yn:1≤R1.length:=by
      rw [bB]
      rcases ho:gQ x least with _ | ⟨a,t⟩
      ·exact absurd ho (MX x least)
      ·simp
     have YU:R1.length≤500000:=by
      have h1:=sX (gQ x least)
      have h2:=Kj wb.out least
      have h3:=Vl.out;have h4:=HWG.out;have h5:=HGK.out
      simp only [wgP] at h4
      omega
     obtain⟨g4,Lr,c4,-,afS,-,-,KN,aeF⟩:=GX.cell (by intro h;rw [List.append_eq_nil_iff] at h;rw [h.2] at Yn;simp at Yn)
     have JG:=zh (fun bH=>Tu S F B b bb g4 (R0++R1).length Lr bH R0 R1 (gQ x least) (Lib.byteCells out) w4 GX ZJ HF.out Yv c4 (by omega))
     obtain⟨M,hM⟩:∃M,R1.length=M:=⟨_,rfl⟩
     have hcl:(R0++R1).length=L+M:=by rw [List.length_append,HL.out,hM]
     rw [hcl] at c4 KN
     rw [HL.out,hM] at JG
     obtain⟨n4,hn4⟩:∃n4,L+M=n4:=⟨_,rfl⟩
     have hM2:n4 - L=M:=by omega
     rw [hn4] at c4 KN
     have YH:=zh (ES.out.same qF (fun k hk e=>e (HF.out k hk)))
     have vj:=zh (jp.out.trans qF)
     have HZ4:Hid (bb<w4.heap.size):=zh (zn YW.out qF.size)
     have agk:b<w4.heap.size:=zn mD.out vj.out.size
     have x1:(0:Int)≤(L:Int):=by omega
     have x2:(L:Int)≤(n4:Int):=by omega
     have x3:L≤n4:=by omega
     have x4:(n4:Int)≤(Lr:Int):=by omega
     have x5:n4≤Lr:=by omega
     have x6:¬Lr=L:=by omega
     have x7:¬(n4:Int)<(L:Int):=by omega
     have x8:L≤Lr:=by omega
     clear GX ZJ Yv qF bB Yn YU hcl KN hM hn4 TM ES jp YW d0 d1 d2
     go_wp2_with fail
     refine(JG.out _).mono ?_
     rintro e w5 ⟨rfl,Pz,hp5,hb5,Hp⟩
     have HW5:=zh Pz
     have HP5:Hid (bp F w5 (gQ x least++Sm).reverse (R0++R1.reverse)):=zh (by rw [List.reverse_append];exact(YH.out.same Hp (fun k hk e=>e (HF.out k hk))).app hp5)
     have SQ:=zh hb5;have zl:=zh (vj.out.trans Hp)
     have HZ5:Hid (bb<w5.heap.size):=zh (zn HZ4.out Hp.size)
     have E3:Hid (eP (gQ x least++Sm)<gk):=zh (by
      have h2:=Kj wb.out least
      have h3:=Vl.out;have h4:=HWG.out
      simp only [wgP] at h4
      rw [jP];omega)
     clear Pz hp5 hb5 Hp c4 aeF x1 x2 x3 x4 x5 x6 x7 x8 hM2 JG YH vj HZ4 agk afS
     go_wp2_with fail
     go_roundg (eP (gQ x least++Sm))
     case rel=>
      exact⟨gQ x least++Sm,out,R0++R1.reverse,Nat.le_refl _,by have h1:=E3.out;have h3:=HGK.out;omega,HW5,HP5,SQ,zh (by rw [←E9.out,Du,Mc wb.out];rfl),zl,zh (fun p hp=>(List.mem_append.1 hp).elim (KC wb.out least p) (fun h=>Oy.out p (List.mem_cons_of_mem _ h))),HZ5⟩
     case measure=>exact E3.out
def tw (l:List UInt8) (D:Int):Px:=cO (ag l).1 (aH (ag l).1 D.toNat false).1
theorem Rp {L:List Tok}:∀ {t:Tok},t∈L→t.lead.length+t.text.length≤(bV L).length:=by
 induction L with
 | nil=>intro t h;simp at h
 | cons a L ih=>
   intro t h
   have e:bV (a::L)=a.lead++a.text++bV L:=rfl
   rw [e,List.length_append,List.length_append]
   rcases List.mem_cons.1 h with rfl | h
   ·omega
   ·have:=ih h;omega
theorem CI {l:List UInt8} (hl:l.length≤30000) (h:(ag l).2.1=0):∀i,(tkT (ag l).1 i).pos≤1000000∧(tkT (ag l).1 i).text.length≤1000000:=fun i=>by
 unfold tkT
 cases ht:(ag l).1[i]? with
 | none=>exact⟨by simp,by simp⟩
 | some t=>
   have h1:=Rp (List.mem_of_getElem? ht)
   have h2:=((j8 h).1 i t ht).1
   have h3:=jS (ag l).1 i
   rw [ku h] at h1 h3
   simp only [Option.getD_some]
   omega
theorem H5 {l:List UInt8} {D:Int} (h:AN l D false):∃(ks:List Int),(aD l D false)[(aD l D false).length - 1]? = some ⟨((1:Nat):Int),-1,ks⟩∧KT (aD l D false) ((aD l D false).length - 1) ks (aH (ag l).1 D.toNat false).1∧ix (aH (ag l).1 D.toNat false).1∧(∀i∈eo (aH (ag l).1 D.toNat false).1,i<(ag l).1.length)∧dI (aH (ag l).1 D.toNat false).1≤(aD l D false).length∧∀t∈(aH (ag l).1 D.toNat false).1,OkP (ag l).1 t:=by
 have hr:=vC.root (.nd 1 (aH (ag l).1 D.toNat false).1)
 have OT:aD l D false=post 0 (.nd 1 (aH (ag l).1 D.toNat false).1):=rfl
 obtain⟨n,ks,hn,hx,jX⟩:=hr.nd
 have bB:(aD l D false).length=szR (.nd 1 (aH (ag l).1 D.toNat false).1):=by rw [OT,mA]
 have j5:n=(aD l D false).length - 1:=by omega
 rw [←OT] at hx jX
 rw [j5] at hx jX
 refine⟨ks,hx,jX,FH (ag l).1 D.toNat false,fun i hi=>?_,?_,WM (UJ (EW l) h.ok)⟩
 ·rw [rt h.lex D.toNat false h.ok] at hi
  exact List.mem_range.1 hi
 ·rw [bB];simp only [szR];omega
theorem Gi {l:List UInt8} {D:Int} (hl:l.length≤25000) (h:AN l D false) (hN:(aD l D false).length≤2*(ag l).1.length) {K:Kf} (pt pn:Option Addr) (ct cn:Nat) (w:World) (ht:TAt w pt (ag l).1) (hn:aE w pn (aD l D false) K) (cg:fy w):
  Calls Tryz.prog 20 #[.agg #[.slice pt (ag l).1.length ct,.slice pn (aD l D false).length cn]] w (yX (tw l D) w):=by
 obtain⟨ks,hx,jX,lJ,lH,db,dp⟩:=H5 h
 have bB:=lg h.lex
 exact GE (K:=K) (by omega) (by omega) rfl hx jX lJ lH (by omega) dp (CI (by omega) h.lex) pt pn ct cn w ht hn cg
instance:Inhabited Cl:=⟨⟨0,0,[],[],[],false⟩⟩
def inK (c:Cl):Prop:=-9223372036854775808≤c.kids∧c.kids<9223372036854775808
section
open Go.ChangeShapes Go.WideShapes Go.Deep
variable {H:Type} {enc:TypeId×Value→H} {P:Program} {w:World} {base:Nat} {spare:Nat→Bool} {held:Bool}
theorem C8 {e:TypeId} {f0 f1 f2 f3 f4 f5:Field} {fuel:Nat} {q:List Value} {x:DataW H×List MemPlace} (he:P.underlying e=some (.struct #[f0,f1,f2,f3,f4,f5])) (hq:q.length=6)
  (o0:f0.offset=0) (o1:f1.offset=1) (o2:f2.offset=2) (o3:f3.offset=3) (o4:f4.offset=4) (o5:f5.offset=5) (c0:P.cellsOf f0.type=1) (c1:P.cellsOf f1.type=1) (c2:P.cellsOf f2.type=1) (c3:P.cellsOf f3.type=1) (c4:P.cellsOf f4.type=1) (c5:P.cellsOf f5.type=1)
  (t0:P.underlying f0.type=some (.int .i64)) (t1:P.underlying f1.type=some (.int .i64)) (t2:P.underlying f2.type=some .string) (t3:P.underlying f3.type=some .string) (t4:P.underlying f4.type=some .string) (t5:P.underlying f5.type=some .bool)
  (h:DataW.trod enc P w base spare held fuel e q=some x):∃c:Cl,q=oR c∧inK c:=by
 obtain⟨xs,k,hk,Vr,_,zS,hf⟩:=DataW.trod_struct he h
 match xs,zS,q,hq with
 | [y0,y1,y2,y3,y4,y5],_,[v0,v1,v2,v3,v4,v5],_=>
   have g0:=hf 0 f0 rfl
   have g1:=hf 1 f1 rfl
   have g2:=hf 2 f2 rfl
   have g3:=hf 3 f3 rfl
   have g4:=hf 4 f4 rfl
   have g5:=hf 5 f5 rfl
   simp [o0,o1,o2,o3,o4,o5,c0,c1,c2,c3,c4,c5] at g0 g1 g2 g3 g4 g5
   obtain⟨n0,e0,-⟩:=DataW.trod_int t0 g0
   obtain⟨n1,e1,-,hwf⟩:=DataW.trod_int t1 g1
   obtain⟨s2,e2,-⟩:=DataW.trod_string t2 g2
   obtain⟨s3,e3,-⟩:=DataW.trod_string t3 g3
   obtain⟨s4,e4,-⟩:=DataW.trod_string t4 g4
   obtain⟨b5,e5,-⟩:=DataW.trod_bool t5 g5
   simp at e0 e1 e2 e3 e4 e5
   subst e0;subst e1;subst e2;subst e3;subst e4;subst e5
   refine⟨⟨n0,n1,s2.data.toList,s3.data.toList,s4.data.toList,b5⟩,rfl,?_⟩
   unfold inK
   simp [Lit.wf] at hwf
   have h1:IntKind.i64.min = -9223372036854775808:=by decide
   rw [h1] at hwf
   exact⟨hwf.1,by show n1<9223372036854775808;omega⟩
theorem BL {t e:TypeId} {f0 f1 f2 f3 f4 f5:Field} {fuel:Nat} {v:Option Addr} {n c:Nat} {x:DataW H×List MemPlace} (ht:P.underlying t=some (.slice e)) (he:P.underlying e=some (.struct #[f0,f1,f2,f3,f4,f5])) (ce:P.cellsOf e=6)
  (o0:f0.offset=0) (o1:f1.offset=1) (o2:f2.offset=2) (o3:f3.offset=3) (o4:f4.offset=4) (o5:f5.offset=5) (c0:P.cellsOf f0.type=1) (c1:P.cellsOf f1.type=1) (c2:P.cellsOf f2.type=1) (c3:P.cellsOf f3.type=1) (c4:P.cellsOf f4.type=1) (c5:P.cellsOf f5.type=1)
  (t0:P.underlying f0.type=some (.int .i64)) (t1:P.underlying f1.type=some (.int .i64)) (t2:P.underlying f2.type=some .string) (t3:P.underlying f3.type=some .string) (t4:P.underlying f4.type=some .string) (t5:P.underlying f5.type=some .bool)
  (h:DataW.trod enc P w base spare held fuel t [.slice v n c]=some x):∃T:List Cl,T.length=n∧GAt 6 w v (T.map oR)∧∀c∈T,inK c:=by
 obtain⟨h1,h2,q,hq,hg⟩:=Ig ht ce (by omega) h
 have each:∀j,j<n→∃c:Cl,q j=oR c∧inK c:=fun j hj=>by
  obtain⟨hl,f',x',hx⟩:=hq j hj
  exact C8 he hl o0 o1 o2 o3 o4 o5 c0 c1 c2 c3 c4 c5 t0 t1 t2 t3 t4 t5 hx
 obtain⟨T,hT⟩:=choose_lt each
 refine⟨(List.range n).map T,by simp,?_,fun c hc=>?_⟩
 ·have:((List.range n).map T).map oR=(List.range n).map q:=by
   rw [List.map_map]
   exact List.map_congr_left fun j hj=>(hT j (by simpa using hj)).1.symm
  rw [this];exact hg
 ·obtain⟨j,hj,rfl⟩:=List.mem_map.1 hc
  exact(hT j (by simpa using hj)).2
end
end Go.Proofs.YtjbgnopnehgbaaaGreatDoor
