/- Lemmas. -/
import Derived.Test.YtpkipghjohomcaaGreatDoorP5
set_option linter.unusedVariables false
set_option linter.unusedSimpArgs false
set_option maxHeartbeats 8000000
set_option maxRecDepth 100000
namespace Go.Proofs.YtpkipghjohomcaaGreatDoor
open Go.RowKit List Go.World
def J5 (t:Tok):Value:=.agg #[.int .i64 (t.kind:Int),aD t.lead,aD t.text,.int .i64 (t.pos:Int)]
theorem FD (b:Nat) (l:List Tok) (u:Nat) (N:List Nd) (vn:Value) (t:Tok) (w:World) (hl:l.length<=100000) (hu:u<=l.length) (hs:vR l) (H:l[min u (l.length - 1)]? = some t) (h:uq w b l u N vn):
  Calls Tryz.prog 45 #[.pointer (some ⟨b,0,none⟩)] w (bp (J5 t) w):=by
 obtain⟨pt,ct,aq,h⟩:=h
 have L:=h.box
 have j3:0<l.length:=by have:=(Q4.1 H).1;omega
 obtain⟨YB,IG⟩:=hs t (gn H)
 obtain⟨g,ax,rfl,bN,hc⟩:=h.toks.resolve_left (fun ak=>by rw [ak] at j3;simp at j3)
 obtain⟨j,O⟩:=zx (min u (l.length - 1))
 rw [O] at H
 obtain⟨c0,I,J,c3⟩:=hc j t H
 unfold aD at I J
 obtain⟨A,R⟩:∃A:ByteArray,(⟨t.lead.toArray⟩:ByteArray)=A:=⟨_,rfl⟩
 obtain⟨E,U⟩:∃E:ByteArray,(⟨t.text.toArray⟩:ByteArray)=E:=⟨_,rfl⟩
 have Xu:A.size<=1000000:=by rw [<-aQ,<-R];exact YB
 have kw:E.size<=1000000:=by rw [<-aQ,<-U];exact IG
 have rN:Hid (J5 t=.agg #[.int .i64 (t.kind:Int),.string A,.string E,.int .i64 (t.pos:Int)]):=zh (by unfold J5 aD;rw [R,U])
 rw [R] at I
 rw [U] at J
 have SQ:=zh (fun W=>vE (t.kind:Int) (t.pos:Int) A E W Xu kw)
 rw [rN.out]
 generalize (t.kind:Int)=tk at *
 generalize (t.pos:Int)=tp at *
 have PU:=(Q4.1 H).1
 obtain⟨m,hm⟩:=zx l.length
 rw [hm] at L hl hu O j3 PU
 obtain⟨m1,ao⟩:=zx (m - 1)
 rw [ao] at O
 have av:IntKind.i64.wrap ((m:Int) - 1)=(m1:Int):=by rw [IntWalk.i64_in _ (by omega)];omega
 have au:min (u:Int) (m1:Int)=(j:Int):=by omega
 have e1:=yi (m:Int) 0
 have e2:=yi m 0
 obtain⟨d0,d1,d2,d3⟩:=eO L
 have Ep:=jJ L
 have vD:=zh L
 clear L hm h hc R U Xu kw YB IG H ao hs rN
 go_enter Tryz.func45,Tryz.ntmps45
 go_wp2_with fail
 have hR:=YK w (.cells #[.int .i64 0,.string ⟨#[]⟩,.string ⟨#[]⟩,.int .i64 0] 91)
 have G:=qn w (.cells #[.int .i64 0,.string ⟨#[]⟩,.string ⟨#[]⟩,.int .i64 0] 91) none
 have c0:=G.cell c0 (by simp)
 have I:=G.cell I (by simp)
 have J:=G.cell J (by simp)
 have c3:=G.cell c3 (by simp)
 obtain⟨d0,d1,d2,d3⟩:=eO (bx G vD)
 generalize (w.alloc (.cells #[.int .i64 0,.string ⟨#[]⟩,.string ⟨#[]⟩,.int .i64 0] 91))=W at *
 obtain⟨B,hB⟩:=zx w.heap.size
 have ik:=zh hB
 rw [hB] at hR ⊢
 have HR:=zh hR;have ij:=zh G
 clear hR G hB
 go_region_with (go_at_call 74;refine(SQ.out _).mono ?_;rintro ak w2 ⟨rfl,Z⟩;have Y:=bx Z HR.out;obtain⟨f0,f1,f2,f3,f4⟩:=iT Y;have xE:=zh Y;have bF:=zh (aa (show W.grownBy _ none from(by repeat (with_reducible first | exact ad _ _ | refine aC ?_))) Z);clear Z Y)
 all_goals
  have PK:=zh (ab (i:=3) (u:=.int .i64 tp) (ab (i:=2) (u:=.string E) (ab (i:=1) (u:=.string A) (ab (i:=0) (u:=.int .i64 tk) xE))))
  have oM:=zh ((((Fr2.setCell (S:=fun ap=>ap=B) (Fr2.refl _ w2) (g:=B) (j:=0) rfl (.int .i64 tk)).setCell (g:=B) (j:=1) rfl (.string A)).setCell (g:=B) (j:=2) rfl (.string E)).setCell (g:=B) (j:=3) rfl (.int .i64 tp))
  clear f0 f1 f2 f3 f4 d0 d1 d2 d3 c0 I J c3
  go_wp2_with fail
  obtain⟨k0,k1,k2,k3,-⟩:=iT PK
  refine bodyPost_ret (v:=.agg #[.int .i64 tk,.string A,.string E,.int .i64 tp]) (by simp [results,Tryz.results45,go_sem,k0,k1,k2,k3]) rfl ⟨rfl,Fr2.after (aa ij bF) oM (fun j O=>by rw [ik.out];omega)⟩
structure Cn (w:World) (base:Nat) (vn:Value) (N:List Nd) (K:Kf):Prop where
 own:ag 3 92 w base vn (iZ K N)
 kids:Bv w N K
 khi:∀(i:Nat) (x:Nd),N[i]? = some x->x.kids≠[]->∀a,(K i).1=some a->base<=a.block/\a.block<w.heap.size/\vn.ownBlock≠some a.block
theorem Cn.kept {w G:World} {base:Nat} {vn:Value} {N:List Nd} {K:Kf} (h:Cn w base vn N K) (m:w.grownBy G none):Cn G base vn N K:=
 ⟨h.own.kept m,fun B E A=>(h.kids B E A).kept m,fun B E A R H O=>by
  obtain⟨I,J,L⟩:=h.khi B E A R H O
  exact⟨I,zn J m.size,L⟩⟩
theorem Cn.add {w R:World} {base:Nat} {vn:Value} {N:List Nd} {K:Kf} (h:Cn w base vn N K) (hf:w.grownBy R vn.ownBlock) {H n9 U:Nat} {x:Nd} {p:Option Addr} {c:Nat}
  (eF:ag 3 92 R base (.slice (some ⟨H,0,none⟩) n9 U) (iZ K N++[[.int .i64 x.kind,.int .i64 x.tok,.slice p x.kids.length c]])) (hk:VAt w p (ar x.kids)) (uH:x.kids≠[]->∀a,p=some a->base<=a.block/\vn.ownBlock≠some a.block)
  (el:vn.ownBlock=some H\/w.heap.size<=H):∃J,Cn R base (.slice (some ⟨H,0,none⟩) n9 U) (N++[x]) J:=by
 obtain⟨J,UR,UP⟩:=Bi K N.length p c
 have O:Fr2 (fun I=>vn.ownBlock=some I) w R:=Fr2.of hf (fun I B=>B)
 have gW:∀(m:Nat) (E:Nd),(N++[x])[m]? = some E->(m<N.length/\N[m]? = some E/\J m=K m)\/(m=N.length/\E=x/\J m=(p,c)):=fun m E A=>by
  by_cases hi:m<N.length
  ·rw [getElem?_append_left hi] at A;exact .inl ⟨hi,A,UP m (by omega)⟩
  ·have L:=(Q4.1 A).1
   rw [Q2,length_singleton] at L
   obtain rfl:m=N.length:=by omega
   rw [getElem?_append_right (Nat.le_refl _)] at A
   simp at A
   exact .inr ⟨rfl,A.symm,UR⟩
 have UH:∀I,(Value.slice (some ⟨H,0,none⟩) n9 U).ownBlock=some I->H=I:=fun I B=>by simpa [Value.ownBlock] using B
 refine⟨J,by rw [sO UR UP];exact eF,fun m E A=>?_,fun m E A hn a G=>?_⟩
 ·rcases gW m E A with ⟨-,A,B⟩ | ⟨-,rfl,B⟩
  ·rw [B]
   exact(h.kids m E A).keptF O fun Z a G=>(h.khi m E A (ez Z) a G).2.2
  ·rw [B]
   exact hk.keptF O fun Z a G=>(uH (ez Z) a G).2
 ·rcases gW m E A with ⟨-,A,B⟩ | ⟨-,rfl,B⟩
  ·rw [B] at G
   obtain⟨L,h2,h3⟩:=h.khi m E A hn a G
   refine⟨L,zn h2 O.size,fun Y=>?_⟩
   have:=UH _ Y
   subst this
   rcases el with h | h
   ·exact h3 h
   ·omega
  ·rw [B] at G
   obtain⟨L,h3⟩:=uH hn a G
   have h2:=hk.lt (vm hn) a G
   refine⟨L,zn h2 O.size,fun Y=>?_⟩
   have:=UH _ Y
   subst this
   rcases el with h | h
   ·exact h3 h
   ·omega
end Go.Proofs.YtpkipghjohomcaaGreatDoor
