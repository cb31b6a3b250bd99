/- Lemmas. -/
import Derived.Test.YtpkipghjohomcaaGreatDoorP20
set_option linter.unusedVariables false
set_option linter.unusedSimpArgs false
namespace Go.Proofs.YtpkipghjohomcaaGreatDoor
def tj (T:List Tok):Tr->Prop
 | .lf A=>(tkT T A).kind≠1
 | .nd B m=>B=5->((gz T m).text=ME\/(gz T m).text=boolT)
theorem J3 {T:List Tok} {f:Fx} {t:Tr} (h:tj T t):gT T f t=mw T f t:=by
 cases t with
 | lf E=>simp only [gT,mw];rw [if_neg h]
 | nd B G=>
   simp only [gT,mw]
   by_cases m:B=5
   ·rw [if_pos m,if_pos m]
    rcases h m with A | A
    ·rw [A];rfl
    ·rw [A];rfl
   ·rw [if_neg m,if_neg m]
theorem zZ {T:List Tok}:∀ {l:List Tr} {f:Fx},(∀t∈l,tj T t)->l.foldl (gT T) f=l.foldl (mw T) f
 | [],_,_=>rfl
 | t::l,f,h=>by
   rw [List.foldl_cons,List.foldl_cons,J3 (h t (by simp))]
   exact zZ (fun A m=>h A (by simp [m]))
theorem uW {T:List Tok}:∀ {l:List Tr} {f:Fx},(∀t∈l,∃i,t=.lf i/\(tkT T i).kind≠1)->l.foldl (gT T) f=f
 | [],_,_=>rfl
 | t::l,f,h=>by
   obtain⟨i,rfl,m⟩:=h t (by simp)
   rw [List.foldl_cons,gT,if_neg m]
   exact uW (fun B A=>h B (by simp [A]))
theorem wB {T:List Tok}:∀ {l:List Tr} {f:Fx},(∀t∈l,∃i,t=.lf i/\(tkT T i).kind≠1)->l.foldl (mw T) f=f
 | [],_,_=>rfl
 | t::l,f,h=>by
   obtain⟨i,rfl,B⟩:=h t (by simp)
   rw [List.foldl_cons,mw]
   exact wB (fun A m=>h A (by simp [m]))
theorem zt {T:List Tok} {pre post:List Tr} {n:Nat} (m:∀t∈pre,∃i,t=.lf i/\(tkT T i).kind≠1) (A:(tkT T n).kind=1) (B:∀t∈post,tj T t):cm T (pre++.lf n::post)=fF T (tkT T n).text (tkT T n).pos (pre++.lf n::post):=by
 unfold cm fF
 rw [List.foldl_append,List.foldl_append,uW m,wB m,List.foldl_cons,List.foldl_cons,gT,if_pos A,mw]
 exact zZ B
theorem rf {T:List Tok} {l:List Tr} (h:ShT T l):∀t∈l,tj T t:=by
 cases h with
 | mk H G I A B E=>
   intro t m
   rcases List.mem_cons.1 m with rfl | m
   ·exact A
   rcases List.mem_cons.1 m with rfl | m
   ·intro _;simpa [gz,ba] using B
   cases E with
   | no=>simp at m
   | yes R U J L O=>
     simp at m;subst m
     intro h;omega
theorem LR {T:List Tok} {q:List Tr} (h:ShP T (.nd 4 q)):∃m,q[0]? = some (.lf m)/\cm T q=fF T (tkT T m).text (tkT T m).pos q:=by
 cases h with
 | mk E G A B=>exact⟨E,rfl,zt (pre:=[]) (by simp) A (rf B)⟩
theorem SN {T:List Tok} {l:List Tr} (h:tc T l):∀t∈l,tj T t/\∀q,t=.nd 4 q->ShP T (.nd 4 q):=by
 induction h with
 | one L B=>
   intro t m;simp at m;subst m
   refine⟨?_,fun q A=>A▸B⟩
   cases B with
   | mk J l E G=>intro h;omega
 | more l O L _ H B I=>
   intro t m
   rcases List.mem_append.1 m with m | m
   ·rcases List.mem_append.1 m with m | m
    ·exact I t m
    ·simp at m;subst m;exact⟨H,fun q A=>by cases A⟩
   ·simp at m;subst m
    refine⟨?_,fun q A=>A▸B⟩
    cases B with
    | mk J l E G=>intro h;omega
theorem OB {T:List Tok} {l:List Tr} (h:ShD T (.nd 3 l)):(∃m,l[if (gz T l).text=rH then 2 else 1]? = some (.lf m)/\cm T l=fF T (tkT T m).text (tkT T m).pos l)/\∀q,Tr.nd 4 q∈l->ShP T (.nd 4 q):=by
 cases h with
 | mk pb H L O R J U q I m KR YC Sa Qa eM qr Sy ao QT eg cB Uq=>
   have TP:∀E∈[Tr.lf O]++R++[.lf J]++U++[.lf q]++[I]++[.lf m],tj T E/\∀q,E=.nd 4 q->ShP T (.nd 4 q):=fun E A=>by
    simp only [List.mem_append] at A
    rcases A with (((((A | A) | A) | A) | A) | A) | A
    ·simp at A;subst A;exact⟨eM,fun q B=>by cases B⟩
    ·rcases qr with rfl | qr
     ·simp at A
     ·exact SN qr E A
    ·simp at A;subst A;exact⟨Sy,fun q B=>by cases B⟩
    ·exact⟨rf ao E A,fun q B=>by
      have:=(vf ao E A).2 q;exact absurd B this⟩
    ·simp at A;subst A;exact⟨QT,fun q B=>by cases B⟩
    ·simp at A;subst A
     cases E with
     | lf Y=>simp [isN] at eg
     | nd ap aq=>
       have:=GW cB
       exact⟨fun B=>by omega,fun q B=>by injection B with B;omega⟩
    ·simp at A;subst A;exact⟨Uq,fun q B=>by cases B⟩
   have B:pb++[Tr.lf H,.lf L,.lf O]++R++[.lf J]++U++[.lf q]++[I]++[.lf m]=(pb++[.lf H])++.lf L::([Tr.lf O]++R++[.lf J]++U++[.lf q]++[I]++[.lf m]):=by simp
   have oP:∀E∈pb++[Tr.lf H],∃Y,E=.lf Y/\(tkT T Y).kind≠1:=fun E A=>by
    rcases List.mem_append.1 A with A | A
    ·rcases KR with rfl | ⟨ak,rfl,-,hp⟩
     ·simp at A
     ·simp at A;exact⟨ak,A,hp⟩
    ·simp at A;exact⟨H,A,Sa⟩
   rw [B]
   refine⟨⟨L,?_,zt oP Qa (fun E A=>(TP E A).1)⟩,fun q G=>?_⟩
   ·rcases KR with rfl | ⟨ak,rfl,hp,-⟩
    ·have Z:(gz T ([]++[Tr.lf H]++.lf L::([Tr.lf O]++R++[.lf J]++U++[.lf q]++[I]++[.lf m]))).text = [102,117,110]:=by simpa [gz,ba] using YC
     rw [if_neg (by rw [Z];decide)];rfl
    ·have Z:(gz T ([Tr.lf ak]++[Tr.lf H]++.lf L::([Tr.lf O]++R++[.lf J]++U++[.lf q]++[I]++[.lf m]))).text=rH:=by simpa [gz,ba] using hp
     rw [if_pos Z];rfl
   ·rcases List.mem_append.1 G with G | G
    ·obtain⟨Y,hi,-⟩:=oP _ G;cases hi
    ·rcases List.mem_cons.1 G with G | G
     ·cases G
     ·exact(TP _ G).2 q rfl
open Go.RowKit List Go.World
theorem AM {W:World} {B:Nat} {T:TypeId} {x0 x1 x2 x3 x4 x5 x6 x7 x8 x9 gE gw Y U:Value} (h0:W.heap[B]? = some (.cells #[x0,x1,x2,x3,x4,x5,x6,x7,x8,x9,gE,gw,Y,U] T (0,0))) (m A E G H I J L O R Z xO Aq DH:Value):((((((((((((((W.setCell ⟨B,0,none⟩ m).setCell ⟨B,1,none⟩ A).setCell ⟨B,2,none⟩ E).setCell ⟨B,3,none⟩ G).setCell ⟨B,4,none⟩ H).setCell ⟨B,5,none⟩ I).setCell ⟨B,6,none⟩ J).setCell ⟨B,7,none⟩ L).setCell ⟨B,8,none⟩ O).setCell ⟨B,9,none⟩ R).setCell ⟨B,10,none⟩ Z).setCell ⟨B,11,none⟩ xO).setCell ⟨B,12,none⟩ Aq).setCell ⟨B,13,none⟩ DH).heap[B]? = some (.cells #[m,A,E,G,H,I,J,L,O,R,Z,xO,Aq,DH] T (0,0))/\Fr2 (dm B) W ((((((((((((((W.setCell ⟨B,0,none⟩ m).setCell ⟨B,1,none⟩ A).setCell ⟨B,2,none⟩ E).setCell ⟨B,3,none⟩ G).setCell ⟨B,4,none⟩ H).setCell ⟨B,5,none⟩ I).setCell ⟨B,6,none⟩ J).setCell ⟨B,7,none⟩ L).setCell ⟨B,8,none⟩ O).setCell ⟨B,9,none⟩ R).setCell ⟨B,10,none⟩ Z).setCell ⟨B,11,none⟩ xO).setCell ⟨B,12,none⟩ Aq).setCell ⟨B,13,none⟩ DH):=by
 have h1:(W.setCell ⟨B,0,none⟩ m).heap[B]? = some (.cells #[m,x1,x2,x3,x4,x5,x6,x7,x8,x9,gE,gw,Y,U] T (0,0)):=ab (i:=0) (u:=m) h0
 have h2:((W.setCell ⟨B,0,none⟩ m).setCell ⟨B,1,none⟩ A).heap[B]? = some (.cells #[m,A,x2,x3,x4,x5,x6,x7,x8,x9,gE,gw,Y,U] T (0,0)):=ab (i:=1) (u:=A) h1
 have h3:(((W.setCell ⟨B,0,none⟩ m).setCell ⟨B,1,none⟩ A).setCell ⟨B,2,none⟩ E).heap[B]? = some (.cells #[m,A,E,x3,x4,x5,x6,x7,x8,x9,gE,gw,Y,U] T (0,0)):=ab (i:=2) (u:=E) h2
 have h4:((((W.setCell ⟨B,0,none⟩ m).setCell ⟨B,1,none⟩ A).setCell ⟨B,2,none⟩ E).setCell ⟨B,3,none⟩ G).heap[B]? = some (.cells #[m,A,E,G,x4,x5,x6,x7,x8,x9,gE,gw,Y,U] T (0,0)):=ab (i:=3) (u:=G) h3
 have h5:(((((W.setCell ⟨B,0,none⟩ m).setCell ⟨B,1,none⟩ A).setCell ⟨B,2,none⟩ E).setCell ⟨B,3,none⟩ G).setCell ⟨B,4,none⟩ H).heap[B]? = some (.cells #[m,A,E,G,H,x5,x6,x7,x8,x9,gE,gw,Y,U] T (0,0)):=ab (i:=4) (u:=H) h4
 have h6:((((((W.setCell ⟨B,0,none⟩ m).setCell ⟨B,1,none⟩ A).setCell ⟨B,2,none⟩ E).setCell ⟨B,3,none⟩ G).setCell ⟨B,4,none⟩ H).setCell ⟨B,5,none⟩ I).heap[B]? = some (.cells #[m,A,E,G,H,I,x6,x7,x8,x9,gE,gw,Y,U] T (0,0)):=ab (i:=5) (u:=I) h5
 have h7:(((((((W.setCell ⟨B,0,none⟩ m).setCell ⟨B,1,none⟩ A).setCell ⟨B,2,none⟩ E).setCell ⟨B,3,none⟩ G).setCell ⟨B,4,none⟩ H).setCell ⟨B,5,none⟩ I).setCell ⟨B,6,none⟩ J).heap[B]? = some (.cells #[m,A,E,G,H,I,J,x7,x8,x9,gE,gw,Y,U] T (0,0)):=ab (i:=6) (u:=J) h6
 have h8:((((((((W.setCell ⟨B,0,none⟩ m).setCell ⟨B,1,none⟩ A).setCell ⟨B,2,none⟩ E).setCell ⟨B,3,none⟩ G).setCell ⟨B,4,none⟩ H).setCell ⟨B,5,none⟩ I).setCell ⟨B,6,none⟩ J).setCell ⟨B,7,none⟩ L).heap[B]? = some (.cells #[m,A,E,G,H,I,J,L,x8,x9,gE,gw,Y,U] T (0,0)):=ab (i:=7) (u:=L) h7
 have h9:(((((((((W.setCell ⟨B,0,none⟩ m).setCell ⟨B,1,none⟩ A).setCell ⟨B,2,none⟩ E).setCell ⟨B,3,none⟩ G).setCell ⟨B,4,none⟩ H).setCell ⟨B,5,none⟩ I).setCell ⟨B,6,none⟩ J).setCell ⟨B,7,none⟩ L).setCell ⟨B,8,none⟩ O).heap[B]? = some (.cells #[m,A,E,G,H,I,J,L,O,x9,gE,gw,Y,U] T (0,0)):=ab (i:=8) (u:=O) h8
 have ak:((((((((((W.setCell ⟨B,0,none⟩ m).setCell ⟨B,1,none⟩ A).setCell ⟨B,2,none⟩ E).setCell ⟨B,3,none⟩ G).setCell ⟨B,4,none⟩ H).setCell ⟨B,5,none⟩ I).setCell ⟨B,6,none⟩ J).setCell ⟨B,7,none⟩ L).setCell ⟨B,8,none⟩ O).setCell ⟨B,9,none⟩ R).heap[B]? = some (.cells #[m,A,E,G,H,I,J,L,O,R,gE,gw,Y,U] T (0,0)):=ab (i:=9) (u:=R) h9
 have RI:(((((((((((W.setCell ⟨B,0,none⟩ m).setCell ⟨B,1,none⟩ A).setCell ⟨B,2,none⟩ E).setCell ⟨B,3,none⟩ G).setCell ⟨B,4,none⟩ H).setCell ⟨B,5,none⟩ I).setCell ⟨B,6,none⟩ J).setCell ⟨B,7,none⟩ L).setCell ⟨B,8,none⟩ O).setCell ⟨B,9,none⟩ R).setCell ⟨B,10,none⟩ Z).heap[B]? = some (.cells #[m,A,E,G,H,I,J,L,O,R,Z,gw,Y,U] T (0,0)):=ab (i:=10) (u:=Z) ak
 have oR:((((((((((((W.setCell ⟨B,0,none⟩ m).setCell ⟨B,1,none⟩ A).setCell ⟨B,2,none⟩ E).setCell ⟨B,3,none⟩ G).setCell ⟨B,4,none⟩ H).setCell ⟨B,5,none⟩ I).setCell ⟨B,6,none⟩ J).setCell ⟨B,7,none⟩ L).setCell ⟨B,8,none⟩ O).setCell ⟨B,9,none⟩ R).setCell ⟨B,10,none⟩ Z).setCell ⟨B,11,none⟩ xO).heap[B]? = some (.cells #[m,A,E,G,H,I,J,L,O,R,Z,xO,Y,U] T (0,0)):=ab (i:=11) (u:=xO) RI
 have ao:(((((((((((((W.setCell ⟨B,0,none⟩ m).setCell ⟨B,1,none⟩ A).setCell ⟨B,2,none⟩ E).setCell ⟨B,3,none⟩ G).setCell ⟨B,4,none⟩ H).setCell ⟨B,5,none⟩ I).setCell ⟨B,6,none⟩ J).setCell ⟨B,7,none⟩ L).setCell ⟨B,8,none⟩ O).setCell ⟨B,9,none⟩ R).setCell ⟨B,10,none⟩ Z).setCell ⟨B,11,none⟩ xO).setCell ⟨B,12,none⟩ Aq).heap[B]? = some (.cells #[m,A,E,G,H,I,J,L,O,R,Z,xO,Aq,U] T (0,0)):=ab (i:=12) (u:=Aq) oR
 have ap:((((((((((((((W.setCell ⟨B,0,none⟩ m).setCell ⟨B,1,none⟩ A).setCell ⟨B,2,none⟩ E).setCell ⟨B,3,none⟩ G).setCell ⟨B,4,none⟩ H).setCell ⟨B,5,none⟩ I).setCell ⟨B,6,none⟩ J).setCell ⟨B,7,none⟩ L).setCell ⟨B,8,none⟩ O).setCell ⟨B,9,none⟩ R).setCell ⟨B,10,none⟩ Z).setCell ⟨B,11,none⟩ xO).setCell ⟨B,12,none⟩ Aq).setCell ⟨B,13,none⟩ DH).heap[B]? = some (.cells #[m,A,E,G,H,I,J,L,O,R,Z,xO,Aq,DH] T (0,0)):=ab (i:=13) (u:=DH) ao
 exact⟨ap,(Fr2.setCell (Fr2.setCell (Fr2.setCell (Fr2.setCell (Fr2.setCell (Fr2.setCell (Fr2.setCell (Fr2.setCell (Fr2.setCell (Fr2.setCell (Fr2.setCell (Fr2.setCell (Fr2.setCell (Fr2.setCell (Fr2.refl (dm B) W) (g:=B) (j:=0) (aK B) m) (g:=B) (j:=1) (aK B) A) (g:=B) (j:=2) (aK B) E) (g:=B) (j:=3) (aK B) G) (g:=B) (j:=4) (aK B) H) (g:=B) (j:=5) (aK B) I) (g:=B) (j:=6) (aK B) J) (g:=B) (j:=7) (aK B) L) (g:=B) (j:=8) (aK B) O) (g:=B) (j:=9) (aK B) R) (g:=B) (j:=10) (aK B) Z) (g:=B) (j:=11) (aK B) xO) (g:=B) (j:=12) (aK B) Aq) (g:=B) (j:=13) (aK B) DH)⟩
theorem bk {w:World} {r:Nat} {A B J L O R U Y Z a9 E G H I:Value} {T:TypeId} (m:w.heap[r]? = some (.cells #[A,B,J,L,O,R,U,Y,Z,a9,E,G,H,I] T (0,0))):w.cell? ⟨r,0,none⟩=some A/\w.cell? ⟨r,1,none⟩=some B/\w.cell? ⟨r,2,none⟩=some J/\w.cell? ⟨r,3,none⟩=some L/\w.cell? ⟨r,4,none⟩=some O/\w.cell? ⟨r,5,none⟩=some R/\w.cell? ⟨r,6,none⟩=some U/\w.cell? ⟨r,7,none⟩=some Y/\w.cell? ⟨r,8,none⟩=some Z/\w.cell? ⟨r,9,none⟩=some a9/\w.cell? ⟨r,10,none⟩=some E/\w.cell? ⟨r,11,none⟩=some G/\w.cell? ⟨r,12,none⟩=some H/\w.cell? ⟨r,13,none⟩=some I/\∀o,w.frozen? ⟨r,o,none⟩=false:=
 ⟨by rw [hZ w r 0 _ T (0,0) m];rfl,by rw [hZ w r 1 _ T (0,0) m];rfl,by rw [hZ w r 2 _ T (0,0) m];rfl,by rw [hZ w r 3 _ T (0,0) m];rfl,by rw [hZ w r 4 _ T (0,0) m];rfl,by rw [hZ w r 5 _ T (0,0) m];rfl,by rw [hZ w r 6 _ T (0,0) m];rfl,by rw [hZ w r 7 _ T (0,0) m];rfl,by rw [hZ w r 8 _ T (0,0) m];rfl,by rw [hZ w r 9 _ T (0,0) m];rfl,by rw [hZ w r 10 _ T (0,0) m];rfl,by rw [hZ w r 11 _ T (0,0) m];rfl,by rw [hZ w r 12 _ T (0,0) m];rfl,by rw [hZ w r 13 _ T (0,0) m];rfl,fun o=>by simp [World.frozen?,m]⟩
theorem FW {W:World} {B E j:Nat} {v H I L O R U Y Z v8 v9 J xO G DH:Value} (h:W.cell? ⟨E,j,none⟩=some v) (A:E≠B):((((((((((((((W.setCell ⟨B,0,none⟩ H).setCell ⟨B,1,none⟩ I).setCell ⟨B,2,none⟩ L).setCell ⟨B,3,none⟩ O).setCell ⟨B,4,none⟩ R).setCell ⟨B,5,none⟩ U).setCell ⟨B,6,none⟩ Y).setCell ⟨B,7,none⟩ Z).setCell ⟨B,8,none⟩ v8).setCell ⟨B,9,none⟩ v9).setCell ⟨B,10,none⟩ J).setCell ⟨B,11,none⟩ xO).setCell ⟨B,12,none⟩ G).setCell ⟨B,13,none⟩ DH).cell? ⟨E,j,none⟩=some v:=by
 rw [vr _ _ _ _ (fun m=>A m.symm),vr _ _ _ _ (fun m=>A m.symm),vr _ _ _ _ (fun m=>A m.symm),vr _ _ _ _ (fun m=>A m.symm),vr _ _ _ _ (fun m=>A m.symm),vr _ _ _ _ (fun m=>A m.symm),vr _ _ _ _ (fun m=>A m.symm),vr _ _ _ _ (fun m=>A m.symm),vr _ _ _ _ (fun m=>A m.symm),vr _ _ _ _ (fun m=>A m.symm),vr _ _ _ _ (fun m=>A m.symm),vr _ _ _ _ (fun m=>A m.symm),vr _ _ _ _ (fun m=>A m.symm),vr _ _ _ _ (fun m=>A m.symm)]
 exact h
theorem Qn {W:World} {B:Nat} {T:TypeId} {R U x2 x3 x4 x5 x6 Y Z x9 J L H I:Value} (h0:W.heap[B]? = some (.cells #[R,U,x2,x3,x4,x5,x6,Y,Z,x9,J,L,H,I] T (0,0))) (m A E G O:Value):(((((W.setCell ⟨B,2,none⟩ m).setCell ⟨B,3,none⟩ A).setCell ⟨B,4,none⟩ E).setCell ⟨B,5,none⟩ G).setCell ⟨B,6,none⟩ O).heap[B]? = some (.cells #[R,U,m,A,E,G,O,Y,Z,x9,J,L,H,I] T (0,0))/\Fr2 (dm B) W (((((W.setCell ⟨B,2,none⟩ m).setCell ⟨B,3,none⟩ A).setCell ⟨B,4,none⟩ E).setCell ⟨B,5,none⟩ G).setCell ⟨B,6,none⟩ O):=by
 have h1:(W.setCell ⟨B,2,none⟩ m).heap[B]? = some (.cells #[R,U,m,x3,x4,x5,x6,Y,Z,x9,J,L,H,I] T (0,0)):=ab (i:=2) (u:=m) h0
 have h2:((W.setCell ⟨B,2,none⟩ m).setCell ⟨B,3,none⟩ A).heap[B]? = some (.cells #[R,U,m,A,x4,x5,x6,Y,Z,x9,J,L,H,I] T (0,0)):=ab (i:=3) (u:=A) h1
 have h3:(((W.setCell ⟨B,2,none⟩ m).setCell ⟨B,3,none⟩ A).setCell ⟨B,4,none⟩ E).heap[B]? = some (.cells #[R,U,m,A,E,x5,x6,Y,Z,x9,J,L,H,I] T (0,0)):=ab (i:=4) (u:=E) h2
 have h4:((((W.setCell ⟨B,2,none⟩ m).setCell ⟨B,3,none⟩ A).setCell ⟨B,4,none⟩ E).setCell ⟨B,5,none⟩ G).heap[B]? = some (.cells #[R,U,m,A,E,G,x6,Y,Z,x9,J,L,H,I] T (0,0)):=ab (i:=5) (u:=G) h3
 have h5:(((((W.setCell ⟨B,2,none⟩ m).setCell ⟨B,3,none⟩ A).setCell ⟨B,4,none⟩ E).setCell ⟨B,5,none⟩ G).setCell ⟨B,6,none⟩ O).heap[B]? = some (.cells #[R,U,m,A,E,G,O,Y,Z,x9,J,L,H,I] T (0,0)):=ab (i:=6) (u:=O) h4
 exact⟨h5,(Fr2.setCell (Fr2.setCell (Fr2.setCell (Fr2.setCell (Fr2.setCell (Fr2.refl (dm B) W) (g:=B) (j:=2) (aK B) m) (g:=B) (j:=3) (aK B) A) (g:=B) (j:=4) (aK B) E) (g:=B) (j:=5) (aK B) G) (g:=B) (j:=6) (aK B) O)⟩
theorem wZ {W:World} {B E j:Nat} {v G H I J L:Value} (h:W.cell? ⟨E,j,none⟩=some v) (A:E≠B):(((((W.setCell ⟨B,2,none⟩ G).setCell ⟨B,3,none⟩ H).setCell ⟨B,4,none⟩ I).setCell ⟨B,5,none⟩ J).setCell ⟨B,6,none⟩ L).cell? ⟨E,j,none⟩=some v:=by
 rw [vr _ _ _ _ (fun m=>A m.symm),vr _ _ _ _ (fun m=>A m.symm),vr _ _ _ _ (fun m=>A m.symm),vr _ _ _ _ (fun m=>A m.symm),vr _ _ _ _ (fun m=>A m.symm)]
 exact h
theorem SM {W:World} {B:Nat} {T:TypeId} {J L O R U Y Z x7 x8 x9 gE gw fS fv:Value} (h0:W.heap[B]? = some (.cells #[J,L,O,R,U,Y,Z,x7,x8,x9,gE,gw,fS,fv] T (0,0))) (m A E G H I v6:Value):(((((((W.setCell ⟨B,7,none⟩ m).setCell ⟨B,8,none⟩ A).setCell ⟨B,9,none⟩ E).setCell ⟨B,10,none⟩ G).setCell ⟨B,11,none⟩ H).setCell ⟨B,12,none⟩ I).setCell ⟨B,13,none⟩ v6).heap[B]? = some (.cells #[J,L,O,R,U,Y,Z,m,A,E,G,H,I,v6] T (0,0))/\Fr2 (dm B) W (((((((W.setCell ⟨B,7,none⟩ m).setCell ⟨B,8,none⟩ A).setCell ⟨B,9,none⟩ E).setCell ⟨B,10,none⟩ G).setCell ⟨B,11,none⟩ H).setCell ⟨B,12,none⟩ I).setCell ⟨B,13,none⟩ v6):=by
 have h1:(W.setCell ⟨B,7,none⟩ m).heap[B]? = some (.cells #[J,L,O,R,U,Y,Z,m,x8,x9,gE,gw,fS,fv] T (0,0)):=ab (i:=7) (u:=m) h0
 have h2:((W.setCell ⟨B,7,none⟩ m).setCell ⟨B,8,none⟩ A).heap[B]? = some (.cells #[J,L,O,R,U,Y,Z,m,A,x9,gE,gw,fS,fv] T (0,0)):=ab (i:=8) (u:=A) h1
 have h3:(((W.setCell ⟨B,7,none⟩ m).setCell ⟨B,8,none⟩ A).setCell ⟨B,9,none⟩ E).heap[B]? = some (.cells #[J,L,O,R,U,Y,Z,m,A,E,gE,gw,fS,fv] T (0,0)):=ab (i:=9) (u:=E) h2
 have h4:((((W.setCell ⟨B,7,none⟩ m).setCell ⟨B,8,none⟩ A).setCell ⟨B,9,none⟩ E).setCell ⟨B,10,none⟩ G).heap[B]? = some (.cells #[J,L,O,R,U,Y,Z,m,A,E,G,gw,fS,fv] T (0,0)):=ab (i:=10) (u:=G) h3
 have h5:(((((W.setCell ⟨B,7,none⟩ m).setCell ⟨B,8,none⟩ A).setCell ⟨B,9,none⟩ E).setCell ⟨B,10,none⟩ G).setCell ⟨B,11,none⟩ H).heap[B]? = some (.cells #[J,L,O,R,U,Y,Z,m,A,E,G,H,fS,fv] T (0,0)):=ab (i:=11) (u:=H) h4
 have h6:((((((W.setCell ⟨B,7,none⟩ m).setCell ⟨B,8,none⟩ A).setCell ⟨B,9,none⟩ E).setCell ⟨B,10,none⟩ G).setCell ⟨B,11,none⟩ H).setCell ⟨B,12,none⟩ I).heap[B]? = some (.cells #[J,L,O,R,U,Y,Z,m,A,E,G,H,I,fv] T (0,0)):=ab (i:=12) (u:=I) h5
 have h7:(((((((W.setCell ⟨B,7,none⟩ m).setCell ⟨B,8,none⟩ A).setCell ⟨B,9,none⟩ E).setCell ⟨B,10,none⟩ G).setCell ⟨B,11,none⟩ H).setCell ⟨B,12,none⟩ I).setCell ⟨B,13,none⟩ v6).heap[B]? = some (.cells #[J,L,O,R,U,Y,Z,m,A,E,G,H,I,v6] T (0,0)):=ab (i:=13) (u:=v6) h6
 exact⟨h7,(Fr2.setCell (Fr2.setCell (Fr2.setCell (Fr2.setCell (Fr2.setCell (Fr2.setCell (Fr2.setCell (Fr2.refl (dm B) W) (g:=B) (j:=7) (aK B) m) (g:=B) (j:=8) (aK B) A) (g:=B) (j:=9) (aK B) E) (g:=B) (j:=10) (aK B) G) (g:=B) (j:=11) (aK B) H) (g:=B) (j:=12) (aK B) I) (g:=B) (j:=13) (aK B) v6)⟩
theorem wv {W:World} {B E j:Nat} {v G H I J L O R:Value} (h:W.cell? ⟨E,j,none⟩=some v) (A:E≠B):(((((((W.setCell ⟨B,7,none⟩ G).setCell ⟨B,8,none⟩ H).setCell ⟨B,9,none⟩ I).setCell ⟨B,10,none⟩ J).setCell ⟨B,11,none⟩ L).setCell ⟨B,12,none⟩ O).setCell ⟨B,13,none⟩ R).cell? ⟨E,j,none⟩=some v:=by
 rw [vr _ _ _ _ (fun m=>A m.symm),vr _ _ _ _ (fun m=>A m.symm),vr _ _ _ _ (fun m=>A m.symm),vr _ _ _ _ (fun m=>A m.symm),vr _ _ _ _ (fun m=>A m.symm),vr _ _ _ _ (fun m=>A m.symm),vr _ _ _ _ (fun m=>A m.symm)]
 exact h
theorem I4 {wr w7 wa U R:World} {B G base I H L n9 ak j2:Nat} {J:Option Addr} {Y:List (List Value)} {q:List Value} {ks:List Fx} {x:Fx} {u:Value} (hw:B<=wr.heap.size) (hO:ag 5 66 wr base (.slice J I H) Y) (cB:G<base) (JQ:G<wr.heap.size)
  (kZ:RFs (fun m=>B<=m/\m<wr.heap.size/\m≠G/\(Value.slice J I H).ownBlock≠some m) wr ks Y) (dV:wr.grownBy w7 none) (hq:cH (fun m=>wr.heap.size<=m) w7 x q) (dz:w7.grownBy wa none) (ao:wa.heap.size=w7.heap.size+1)
  (Z:wa.grownBy U (Value.slice J I H).ownBlock) (el:(Value.slice J I H).ownBlock=some L\/L=w7.heap.size+1) (hf:(U.setCell ⟨G,j2,none⟩ u).grownBy R none):
  RFs (fun m=>B<=m/\m<R.heap.size/\m≠G/\(Value.slice (some ⟨L,0,none⟩) n9 ak).ownBlock≠some m) R (ks++[x]) (Y++[q]):=by
 have qU:=ag.at hO
 have s7:=dV.size
 have s9:=Z.size
 have sf:=hf.size
 have sc:(U.setCell ⟨G,j2,none⟩ u).heap.size=U.heap.size:=by simp [World.setCell]
 have fr:Fr2 (fun m=>(Value.slice J I H).ownBlock=some m\/m=G) w7 R:=
  ((Fr2.none dz).trans ((Fr2.of Z (fun m A=>.inl A)).trans ((Fr2.setCell (Fr2.refl _ _) (.inr rfl) u).trans (Fr2.none hf))))
 have bc:∀m,m<w7.heap.size->(Value.slice J I H).ownBlock≠some m->(Value.slice (some ⟨L,0,none⟩) n9 ak).ownBlock≠some m:=fun m E O A=>by
  have A:L=m:=Option.some.inj (show some L=some m from A)
  rcases el with h | h
  ·exact O (by rw [h,A])
  ·omega
 have sH:∀m,wr.heap.size<=m->(Value.slice J I H).ownBlock≠some m:=fun m E A=>by have:=qU _ A;omega
 refine Ca ?_ ?_
 ·have O:=cH.same fr (fun m (E:wr.heap.size<=m/\m<w7.heap.size)=>fun A=>by
   rcases A with A | A
   ·exact sH m E.1 A
   ·omega) hq.bound
  exact cH.mono (fun m E=>⟨by omega,by omega,by omega,bc m E.2 (sH m E.1)⟩) O
 ·have O:=ng fr (fun m (E:B<=m/\m<wr.heap.size/\m≠G/\(Value.slice J I H).ownBlock≠some m)=>fun A=>by
   rcases A with A | A
   ·exact E.2.2.2 A
   ·exact E.2.2.1 A) (qV kZ dV)
  exact ry (fun m E=>⟨E.1,by omega,E.2.2.1,bc m (by omega) E.2.2.2⟩) O
theorem WU:(Tryz.prog.info? 66).map (fun m=>(m.zero,m.size,m.bytes))=some (some (.agg #[.string ⟨#[]⟩,.int .i64 0,.slice none 0 0,.int .i64 0,.int .i64 0]),5,64):=by kernel_rfl
theorem AJ:(Tryz.prog.info? 70).map (·.size)=some 14:=by kernel_rfl
def LC (W:World) (B:Nat) (pub:Bool) (E:Value) (A:World):Prop:=∃m,E=.pointer (some ⟨m,0,none⟩)/\A.heap[m]? = some (.cells #[.bool pub,.slice none 0 0,.string ⟨#[]⟩,.int .i64 0,.slice none 0 0,.int .i64 0,.int .i64 0,.int .i64 0,.string ⟨#[]⟩,.string ⟨#[]⟩,.string ⟨#[]⟩,.bool false,.slice none 0 0,.int .i64 0] 70 (0,0))/\B<m/\W.heap.size<=m/\W.grownBy A none
theorem Vb {W m:World} {A:Nat} {pub:Bool} (h:W.grownBy m none) (B:A<m.heap.size):LC W A pub (.pointer (some ⟨m.heap.size,0,none⟩)) (m.alloc (.cells #[.bool pub,.slice none 0 0,.string ⟨#[]⟩,.int .i64 0,.slice none 0 0,.int .i64 0,.int .i64 0,.int .i64 0,.string ⟨#[]⟩,.string ⟨#[]⟩,.string ⟨#[]⟩,.bool false,.slice none 0 0,.int .i64 0] 70)):=
 ⟨m.heap.size,rfl,YK m _,B,h.size,af h _⟩
theorem Yd {W m:World} {b A:Nat} {pub:Bool} {U Y Z x3 x4 x5 x6 x7 x8 x9 H I E G:Value} (h:W.grownBy m none) (J:W.heap.size<=b) (O:A<b) (B:m.heap[b]? = some (.cells #[U,Y,Z,x3,x4,x5,x6,x7,x8,x9,H,I,E,G] 70 (0,0))):LC W A pub (.pointer (some ⟨b,0,none⟩)) ((((((((((((((m.setCell ⟨b,0,none⟩ (.bool pub)).setCell ⟨b,1,none⟩ (.slice none 0 0)).setCell ⟨b,2,none⟩ (.string ⟨#[]⟩)).setCell ⟨b,3,none⟩ (.int .i64 0)).setCell ⟨b,4,none⟩ (.slice none 0 0)).setCell ⟨b,5,none⟩ (.int .i64 0)).setCell ⟨b,6,none⟩ (.int .i64 0)).setCell ⟨b,7,none⟩ (.int .i64 0)).setCell ⟨b,8,none⟩ (.string ⟨#[]⟩)).setCell ⟨b,9,none⟩ (.string ⟨#[]⟩)).setCell ⟨b,10,none⟩ (.string ⟨#[]⟩)).setCell ⟨b,11,none⟩ (.bool false)).setCell ⟨b,12,none⟩ (.slice none 0 0)).setCell ⟨b,13,none⟩ (.int .i64 0)):=
 ⟨b,rfl,(AM B _ _ _ _ _ _ _ _ _ _ _ _ _ _).1,O,J,Fr2.after h (AM B _ _ _ _ _ _ _ _ _ _ _ _ _ _).2 (fun R L=>by have ak:R=b:=L;omega)⟩
def D5 (x:Dx) (w:World) (e:Ending) (A:World):Prop:=w.grownBy A none/\∃m,e=.returned (.agg m.toArray)/\ig (fun B=>w.heap.size<=B) A x m
theorem Ps {T:List Tok} {w W7 wr w8 WS:World} {m G:Nat} {l:List Tr} {u:Tr} {F:Fx} {pub rE:Bool} {sa sb sc:ByteArray} {U rC:Int} {J Y Z:Option Addr} {I H O L R rq:Nat} {ak:List (List Value)} {x0 x1 x2 x3 x4 x5 x6 x7 x8 x9 gE gw fS fv:Value}
  (aJ:w.heap.size<=m) (oR:m<G) (ap:w.grownBy wr none) (ao:wr.grownBy w8 none) (aq:Fr2 (dm G) w8 WS) (dq:WS.heap[m]? = some (.cells #[x0,x1,x2,x3,x4,x5,x6,x7,x8,x9,gE,gw,fS,fv] 70 (0,0)))
  (ax:G+1<=W7.heap.size) (ay:G+1<=wr.heap.size) (hQ:cH (fun A=>G+1<=A) W7 F [.string ⟨F.nm.toArray⟩,.int .i64 (F.base:Int),.slice Y O L,.int .i64 (F.ps:Int),.int .i64 F.bare]) (hF:Fr2 (fun A=>A=G) W7 wr)
  (hO:ag 5 66 wr W7.heap.size (.slice J I H) ak) (eh:RFs (fun A=>G+1<=A/\A<wr.heap.size/\A≠G/\(Value.slice J I H).ownBlock≠some A) wr (bA T l) ak)
  (hE:RAt (fun A=>wr.heap.size<=A) w8 (axT T u) [.int .i64 U,.string sa,.string sb,.string sc,.bool rE,.slice Z R rq,.int .i64 rC]):
  D5 ⟨pub,bA T l,F,axT T u⟩ w (.returned (.agg #[.bool pub,.slice J I H,.string ⟨F.nm.toArray⟩,.int .i64 (F.base:Int),.slice Y O L,.int .i64 (F.ps:Int),.int .i64 F.bare,.int .i64 U,.string sa,.string sb,.string sc,.bool rE,.slice Z R rq,.int .i64 rC])) ((((((((((((((WS.setCell ⟨m,0,none⟩ (.bool pub)).setCell ⟨m,1,none⟩ (.slice J I H)).setCell ⟨m,2,none⟩ (.string ⟨F.nm.toArray⟩)).setCell ⟨m,3,none⟩ (.int .i64 (F.base:Int))).setCell ⟨m,4,none⟩ (.slice Y O L)).setCell ⟨m,5,none⟩ (.int .i64 (F.ps:Int))).setCell ⟨m,6,none⟩ (.int .i64 F.bare)).setCell ⟨m,7,none⟩ (.int .i64 U)).setCell ⟨m,8,none⟩ (.string sa)).setCell ⟨m,9,none⟩ (.string sb)).setCell ⟨m,10,none⟩ (.string sc)).setCell ⟨m,11,none⟩ (.bool rE)).setCell ⟨m,12,none⟩ (.slice Z R rq)).setCell ⟨m,13,none⟩ (.int .i64 rC)):=by
 obtain⟨hp,hf⟩:=AM dq (.bool pub) (.slice J I H) (.string ⟨F.nm.toArray⟩) (.int .i64 (F.base:Int)) (.slice Y O L) (.int .i64 (F.ps:Int)) (.int .i64 F.bare) (.int .i64 U) (.string sa) (.string sb) (.string sc) (.bool rE) (.slice Z R rq) (.int .i64 rC)
 have qL:Fr2 (fun A=>A=G\/A=m) w8 ((((((((((((((WS.setCell ⟨m,0,none⟩ (.bool pub)).setCell ⟨m,1,none⟩ (.slice J I H)).setCell ⟨m,2,none⟩ (.string ⟨F.nm.toArray⟩)).setCell ⟨m,3,none⟩ (.int .i64 (F.base:Int))).setCell ⟨m,4,none⟩ (.slice Y O L)).setCell ⟨m,5,none⟩ (.int .i64 (F.ps:Int))).setCell ⟨m,6,none⟩ (.int .i64 F.bare)).setCell ⟨m,7,none⟩ (.int .i64 U)).setCell ⟨m,8,none⟩ (.string sa)).setCell ⟨m,9,none⟩ (.string sb)).setCell ⟨m,10,none⟩ (.string sc)).setCell ⟨m,11,none⟩ (.bool rE)).setCell ⟨m,12,none⟩ (.slice Z R rq)).setCell ⟨m,13,none⟩ (.int .i64 rC)):=(aq.mono (fun A B=>.inl B)).trans (hf.mono (fun A B=>.inr B))
 have nW:Fr2 (fun A=>A=G\/A=m) wr ((((((((((((((WS.setCell ⟨m,0,none⟩ (.bool pub)).setCell ⟨m,1,none⟩ (.slice J I H)).setCell ⟨m,2,none⟩ (.string ⟨F.nm.toArray⟩)).setCell ⟨m,3,none⟩ (.int .i64 (F.base:Int))).setCell ⟨m,4,none⟩ (.slice Y O L)).setCell ⟨m,5,none⟩ (.int .i64 (F.ps:Int))).setCell ⟨m,6,none⟩ (.int .i64 F.bare)).setCell ⟨m,7,none⟩ (.int .i64 U)).setCell ⟨m,8,none⟩ (.string sa)).setCell ⟨m,9,none⟩ (.string sb)).setCell ⟨m,10,none⟩ (.string sc)).setCell ⟨m,11,none⟩ (.bool rE)).setCell ⟨m,12,none⟩ (.slice Z R rq)).setCell ⟨m,13,none⟩ (.int .i64 rC)):=(Fr2.none ao).trans qL
 have fG:=ap.size
 obtain⟨SK,pX,ma⟩:=hO.rows
 have au:I=(bA T l).length:=SK.trans (oc eh)
 subst au
 refine⟨Fr2.after (aa ap ao) qL (fun A B=>by rcases B with B | B<;>omega),_,rfl,J,H,ak,[.string ⟨F.nm.toArray⟩,.int .i64 (F.base:Int),.slice Y O L,.int .i64 (F.ps:Int),.int .i64 F.bare],[.int .i64 U,.string sa,.string sb,.string sc,.bool rE,.slice Z R rq,.int .i64 rC],rfl,?_,?_,?_,?_,fun h0=>?_⟩
 ·exact cH.mono (fun A E=>by have E:G+1<=A:=E;omega) (cH.same nW (fun A E B=>by have E:G+1<=A:=E;rcases B with B | B<;>omega) (cH.same hF (fun A E B=>by have E:G+1<=A:=E;omega) hQ))
 ·exact RAt.mono (fun A E=>Nat.le_trans fG E) (RAt.same qL (fun A E B=>by have E:wr.heap.size<=A:=E;rcases B with B | B<;>omega) hE)
 ·exact pX.keptS nW (fun h0 av ha B=>by
   obtain⟨a',pS,K4,-⟩:=ma h0
   rw [ha] at pS;injection pS with pS;subst pS
   rcases B with B | B<;>omega)
 ·exact ry (fun A E=>by have h1:=E.1;omega) (ng nW (fun A E B=>by have h1:=E.1;rcases B with B | B<;>omega) eh)
 ·obtain⟨a',pS,K4,-⟩:=ma (fun B=>by have h9:=oc eh;rw [B] at h9;exact h0 (fb h9.symm))
  exact⟨a',pS,by omega⟩
set_option maxHeartbeats 16000000
set_option maxRecDepth 100000
open Go.RowKit List Nat Go.World
theorem Sx (w:World) (A:Obj):∃(W:World) (b0:Nat),W=w.alloc A/\w.heap.size=b0/\W.heap[b0]? = some A/\w.grownBy W none:=
 ⟨_,_,rfl,rfl,YK w A,qn w A none⟩
def Li (B b:Nat) (s:List UInt8) (w:World) (e:Ending) (m:World):Prop:=e=.returned (.tuple #[])/\PD B b s m/\Below B w m/\bU b w m
def Room (s:List UInt8) (n:Nat):Prop:=s.length+n<=100000000000000
theorem tT (B b:Nat) (s:List UInt8) (y:ByteArray) (w:World) (A:PD B b s w) (J:Room s y.size):
  Calls Tryz.prog 27 #[.pointer (some ⟨b,0,none⟩),.string y] w (fun E m=>E=.returned (.tuple #[.int .i64 y.size,.nilIface])/\PD B b (s++y.data.toList) m/\Below B w m/\bU b w m):=by
 unfold Room at J
 refine(gG B b _ y w A.1 (by rw [Lib.byteCells_length];omega) A.2).mono ?_
 rintro E m ⟨rfl,⟨H,G⟩,I⟩
 exact⟨rfl,⟨.inr (by rw [Lib.byteCells_append];exact H),Nat.le_trans A.2 G.size⟩,G,I⟩
theorem T7 {B b:Nat} {s:List UInt8} {w:World} (h:PD B b s w):b<w.heap.size:=by
 rcases h.1 with ⟨_,_,m,_⟩ | ⟨_,_,m,_⟩<;>exact hlt m
theorem CU {F:Nat->Prop} {w:World} {U:Option Addr} {Y:List (List Value)} {O:List Ex} (hg:GAt 8 w U Y) (eh:LsE F w O Y) {j:Nat} {x:Ex} (hk:O[j]? = some x):
  ∃(G I:Int) (a b:ByteArray) (s y:Bool) (p H:Option Addr) (n c E B g m:Nat),U=some ⟨g,m,none⟩/\g<w.heap.size/\EAt F w x [.int .i64 G,.string a,.string b,.bool s,.slice p n c,.bool y,.slice H E B,.int .i64 I]/\
   w.cell? ⟨g,m+j*8,none⟩=some (.int .i64 G)/\w.cell? ⟨g,m+j*8+1,none⟩=some (.string a)/\w.cell? ⟨g,m+j*8+2,none⟩=some (.string b)/\w.cell? ⟨g,m+j*8+3,none⟩=some (.bool s)/\w.cell? ⟨g,m+j*8+4,none⟩=some (.slice p n c)/\w.cell? ⟨g,m+j*8+5,none⟩=some (.bool y)/\w.cell? ⟨g,m+j*8+6,none⟩=some (.slice H E B)/\w.cell? ⟨g,m+j*8+7,none⟩=some (.int .i64 I):=by
 obtain⟨ao,J,R⟩:=wT eh hk
 obtain⟨g,m,rfl,Z,A⟩:=hg.resolve_left (fun ak=>by rw [ak] at J;simp at J)
 obtain⟨G,I,a,b,s,y,p,H,n,c,E,B,rfl⟩:=R.form
 have A:=A j _ J
 have L:=A 0 _ rfl
 rw [Nat.add_zero] at L
 exact⟨G,I,a,b,s,y,p,H,n,c,E,B,g,m,rfl,Z,R,L,A 1 _ rfl,A 2 _ rfl,A 3 _ rfl,A 4 _ rfl,A 5 _ rfl,A 6 _ rfl,A 7 _ rfl⟩
theorem tw (F:Nat->Prop) (B b:Nat) (I:∀k,F k->k<B) (s:List UInt8) (base:Nat) (A:List Ex) (R:Option Addr) (cc:Nat) (U:List (List Value)) (w:World) (hp:PD B b s w) (hb:base<100) (hg:GAt 8 w R U) (eh:LsE F w A U) (ha:A≠[]->∃a,R=some a/\F a.block)
  (hc:∀x∈A,XBd x) (hn:A.length<=1000000) (hl:Room s (dW base A).length):
  Calls Tryz.prog 60 #[.pointer (some ⟨b,0,none⟩),.int .i64 (base:Int),.slice R A.length cc] w (Li B b (s++dW base A) w):=by
 have Lb:=zh (fun W=>Tryz.strconv_Itoa_small base hb W)
 have Z:Hid ((⟨(Lib.decDigits base).toArray⟩:ByteArray).data.toList=eK base):=zh (by rw [<-zR base hb])
 have rP:(⟨(Lib.decDigits base).toArray⟩:ByteArray).size<=2:=by
  rw [aV Z.out];exact vQ base
 generalize (⟨(Lib.decDigits base).toArray⟩:ByteArray)=dg at *
 have HP:=zh hp;have HC:=zh hc;have HF:=zh I
 have HR:Hid (s.length+(1+((eK base).length+(A.flatMap cL).length))<=100000000000000):=zh (by
  unfold Room dW at hl
  simp only [hJ,Q2] at hl
  omega)
 have HK:=zh (fun (W:World) (h:Below B w W)=>(show GAt 8 W R U/\LsE F W A U from⟨nP (jk eh) hg (fun h0=>ha (length_pos_iff.1 h0)) (Fr2.ofBelow h) (fun k hk E=>by have:=I k hk;have E:B<=k:=E;omega),LsE.same (Fr2.ofBelow h) (fun k hk E=>by have:=I k hk;have E:B<=k:=E;omega) eh⟩))
 have ao:Hid ((eK base).length=dg.size):=zh (aV Z).symm
 obtain⟨G,eC⟩:=zx A.length
 have HN:=zh eC
 rw [eC] at hn ⊢
 have eD:¬ 9223372036854775807<1+dg.size:=by omega
 clear hp hb hg eh ha hc hl eC I
 go_enter Tryz.func60,Tryz.ntmps60
 go_wp2_with fail
 refine(Lb _).mono ?_
 rintro E Y ⟨rfl,rfl⟩
 go_wp2_with fail
 refine(tT B b s _ _ HP (by unfold Room;have:=HR.out;have:=ao.out;have E:(⟨#[58]⟩:ByteArray).size=1:=rfl;rw [ByteArray.size_append];omega)).mono ?_
 rintro E w2 ⟨rfl,H,cB,Jp⟩
 have H:PD B b (s++(58::eK base)) w2:=by
  have E:((⟨#[58]⟩:ByteArray)++dg).data.toList=58::eK base:=by simp [bo,Z.out]
  rw [<-E];exact H
 have KN:=zh H;have bP:=zh cB;have jN:=zh Jp
 clear H cB Jp Lb eD rP
 go_wp2_with fail
 go_loopg [15] G (fun gk iv wr=>∃m:Nat,m<=G/\iv=.int .i64 (m:Int)/\G - m<=gk/\gk<=G/\Hid (PD B b (s++(58::eK base)++(A.take m).flatMap cL) wr)/\Hid (Below B Y wr)/\Hid (bU b Y wr))
 case atStart=>exact⟨0,zero_le _,rfl,by omega,Nat.le_refl _,zh (by rw [take_zero,flatMap_nil,append_nil];exact KN),bP,jN⟩
 case round=>
  obtain⟨m,hj,rfl,Qc,Zn,lT,O,YD⟩:=hrel
  by_cases ak:m<G
  ·obtain⟨x,J⟩:∃x,A[m]? = some x:=⟨A[m]'(by rw [HN.out];exact ak),QS _⟩
   obtain⟨op,ps,a,b9,s9,y9,p9,aJ,n9,c9,uc,ut,av,ay,rfl,bN,hE,c0,c1,c2,c3,c4,c5,c6,c7⟩:=CU (HK wr O).1 (HK wr O).2 J
   have L:=HC x (gn J)
   have MT:=zh (fun W (h:wr.grownBy W none)=>AD F x _ W (hE.kept h) L.small L.cnt (by have:=L.len;omega))
   have cu:Hid ((A.take (m+1)).flatMap cL=(A.take m).flatMap cL++cL x):=zh (ib cL J)
   have TS:Hid (((A.take (m+1)).flatMap cL).length<=(A.flatMap cL).length):=zh (gS cL A (m+1))
   have ik:Hid (B<=wr.heap.size):=zh lT.2
   have i1:(0:Int)<=(m:Int):=by omega
   have i2:(m:Int)<(G:Int):=by omega
   have i3:decide (m<G)=true:=zd ak
   have i4:decide ((m:Int)<(G:Int))=true:=zd i2
   clear J hE L
   go_wp2_with fail
   refine(MT _ (qn wr _ none)).mono ?_
   rintro E w3 ⟨⟨au,rfl,hy⟩,iU⟩
   have gA:=zh (aa (qn wr _ none) iU)
   have My:=zh (lT.gb gA)
   have HY:=zh hy
   clear iU hy c0 c1 c2 c3 c4 c5 c6 c7 MT
   go_wp2_with fail
   refine(tT B b _ au _ My (by
    have h1:=HR.out;have h2:=TS.out;rw [cu.out] at h2
    have h3:=aV HY
    unfold Room
    simp only [Q2,hJ] at h2 ⊢
    omega)).mono ?_
   rintro E w4 ⟨rfl,VH,PY,ZS⟩
   have aq:Hid (PD B b (s++(58::eK base)++(A.take (m+1)).flatMap cL) w4):=zh (by rw [cu.out,<-append_assoc,<-HY.out];exact VH)
   have C6:Hid (Below B Y w4):=zh (Below.trans2 O (Below.trans2 (Below.gb gA ik) PY))
   have ap:Hid (bU b Y w4):=zh (bU.trans YD (bU.trans (bU.none gA) ZS))
   have Wg:G<=1000000:=hn
   have ax:IntKind.i64.wrap ((m:Int)+1)=((m+1:Nat):Int):=by rw [IntWalk.i64_in _ (by omega)];omega
   clear VH PY ZS
   go_wp2_with fail
   go_roundg (G - (m+1))
   case measure=>omega
   case rel=>exact⟨m+1,by omega,by first | rfl | go_num,Nat.le_refl _,by omega,aq,C6,ap⟩
  ·obtain rfl:m=G:=by omega
   have NN:=lT.out
   rw [V7 (by have:=HN.out;omega)] at NN
   have PX:=zh NN
   clear NN
   go_wp2_with fail
   refine bodyPost_end (results_none rfl _ _ _) rfl ?_
   exact⟨rfl,by unfold dW;rw [show s++(58::(eK base++A.flatMap cL))=s++(58::eK base)++A.flatMap cL by simp];exact PX.out,O,YD⟩
open Go.RowKit List Nat
theorem Mw {F:Nat->Prop} {w G:World} {B:Nat} {A:Option Addr} {m:List (List Value)} {E:List Fx} (J:∀k,F k->k<B) (O:GAt 5 w A m) (H:eZ F w E m) (L:E≠[]->∃a,A=some a/\F a.block) (h:Below B w G):GAt 5 G A m/\eZ F G E m:=by
 have I:∀k,F k->¬(B<=k):=fun k R U=>by have:=J k R;omega
 exact⟨eq (pB H) O L (Fr2.ofBelow h) I,od (Fr2.ofBelow h) I H⟩
theorem pK {F:Nat->Prop} {w:World} {H:Option Addr} {J:List (List Value)} {I:List Fx} (hg:GAt 5 w H J) (R:eZ F w I J) {j:Nat} {f:Fx} (hk:I[j]? = some f):
  ∃(z:Option Addr) (c g m:Nat) (B:List (List Value)),H=some ⟨g,m,none⟩/\g<w.heap.size/\GAt 8 w z B/\LsE F w f.cl B/\(f.cl≠[]->∃a,z=some a/\F a.block)/\
   w.cell? ⟨g,m+j*5,none⟩=some (.string ⟨f.nm.toArray⟩)/\w.cell? ⟨g,m+j*5+1,none⟩=some (.int .i64 (f.base:Int))/\w.cell? ⟨g,m+j*5+2,none⟩=some (.slice z f.cl.length c)/\w.cell? ⟨g,m+j*5+3,none⟩=some (.int .i64 (f.ps:Int))/\w.cell? ⟨g,m+j*5+4,none⟩=some (.int .i64 f.bare):=by
 obtain⟨qx,E,hP⟩:=FY R hk
 obtain⟨g,m,rfl,L,A⟩:=hg.resolve_left (fun O=>by rw [O] at E;simp at E)
 obtain⟨z,c,B,rfl,U,Y,Z⟩:=hP
 have A:=A j _ E
 have G:=A 0 _ rfl
 rw [Nat.add_zero] at G
 exact⟨z,c,g,m,B,rfl,L,U,Y,Z,G,A 1 _ rfl,A 2 _ rfl,A 3 _ rfl,A 4 _ rfl⟩
theorem Dt:(62:TypeId)≠5:=by decide
theorem aab:(73:TypeId)≠5:=by decide
theorem Kx (F:Nat->Prop) (B b:Nat) (hF:∀k,F k->k<B) (s:List UInt8) (d:Dx) (q:List Value) (w:World) (hp:PD B b s w) (hx:DAt F w d q) (G:DBe d) (hl:Room s (jF d).length):
  Calls Tryz.prog 28 #[.agg q.toArray,.pointer (some ⟨b,0,none⟩)] w (Li B b (s++jF d) w):=by
 obtain⟨pp,np,cp,eJ,pc,nc,cc,qb,rfl,hR,hE,tK,dz,a2,Ze⟩:=hx
 obtain⟨bP,bH,Rc,qq,Zo,yv,au⟩:=hR
 injection qq with _ qq;injection qq with _ qq;injection qq with qq _;injection qq with qp Pa bt
 subst qp Pa bt
 obtain⟨o9,p9,a9,b9,s9,y9,z9,uP,n9,c9,uc,ut,rfl⟩:=hE.form
 subst tK
 have HK:=zh (fun (W:World) (h:Below B w W)=>Mw hF dz a2 Ze h)
 have aq:=zh (fun (W:World) (h:Below B w W)=>(show GAt 8 W pc Rc/\LsE F W d.res.cl Rc from⟨nP (jk yv) Zo (fun h0=>au (length_pos_iff.1 h0)) (Fr2.ofBelow h) (fun k R A=>by have:=hF k R;have A:B<=k:=A;omega),LsE.same (Fr2.ofBelow h) (fun k R A=>by have:=hF k R;have A:B<=k:=A;omega) yv⟩))
 have E0:=zh (fun (W:World) (h:Below B w W)=>EAt.same (Fr2.ofBelow h) (fun k R A=>by have:=hF k R;have A:B<=k:=A;omega) hE)
 have a0:=zh (fun (ak:List UInt8) (W:World) (I:Below B w W) (h2:PD B b ak W) (h3:Room ak (dW d.res.base d.res.cl).length)=>tw F B b hF ak d.res.base d.res.cl pc cc Rc W h2 G.res.base (aq W I).1 (aq W I).2 au G.res.cls (by have:=G.res.one;omega) h3)
 have bm:=zh (fun (m:Fx) (hf:m∈d.ps) (ap:Option Addr) (bq:Nat) (cr:List (List Value)) (ak:List UInt8) (W:World) h4 h5 h6 (h2:PD B b ak W) (h3:Room ak (dW m.base m.cl).length)=>tw F B b hF ak m.base m.cl ap bq cr W h2 (G.pars m hf).base h4 h5 h6 (G.pars m hf).cls (by have:=(G.pars m hf).one;omega) h3)
 have mf:=zh (fun (W:World) (h:Below B w W)=>AD F d.body _ W (E0 W h) G.body.small G.body.cnt (by have:=G.body.len;omega))
 have HF:=zh hF
 have bX:=zh G
 have HP:=zh hp
 have O:Hid (s.length+((if d.pub=true then [112,117,98,32] else []:List UInt8).length+(d.res.nm.length+((d.ps.flatMap jd).length+(1+((dW d.res.base d.res.cl).length+(3+((cL d.body).length+1)))))))<=100000000000000):=zh (by
  unfold Room jF at hl
  simp only [hJ,Q2,length_nil] at hl ⊢
  omega)
 have xw:Hid (jF d=(if d.pub=true then [112,117,98,32] else [])++(d.res.nm++(d.ps.flatMap jd++(32::(dW d.res.base d.res.cl++([32,61,32]++(cL d.body++[10]))))))):=zh rfl
 have ik:Hid (B<=w.heap.size):=zh hp.2
 have EO:Hid (b<w.heap.size):=zh (T7 hp)
 have xx:Hid (d.res.nm.length<=2000):=zh G.res.name
 obtain⟨H,hn⟩:=zx d.ps.length
 have HN:=zh hn
 have qr:H<=10000:=by rw [<-hn];exact G.few
 obtain⟨bw,hm⟩:=zx d.res.cl.length
 simp only [cons_append,nil_append]
 unfold aD
 obtain⟨yn,vt⟩:∃ao:ByteArray,(⟨d.res.nm.toArray⟩:ByteArray)=ao:=⟨_,rfl⟩
 have Xg:Hid (yn.data.toList=d.res.nm):=zh (by rw [<-vt])
 rw [vt,hn]
 rw [hm] at a0 ⊢
 obtain⟨aL,rL⟩:=zx d.pub
 rw [rL] at O xw ⊢
 obtain⟨J,Qj⟩:=zx (if aL=true then [112,117,98,32] else []:List UInt8)
 have PN:=zh Qj
 rw [Qj] at O xw
 clear hp Zo yv au hE dz a2 Ze G hl hn hm vt hF rL Qj E0 aq
 go_enter Tryz.func28,Tryz.ntmps28
 go_upto_if 7 with fail
 obtain⟨W,b0,hW,e0,cS,dp⟩:=Sx w (.cells #[.bool aL,.string yn,.slice pp H cp,.int .i64 (d.res.base:Int),.slice pc bw cc,.int .i64 o9,.string a9,.string b9,.bool s9,.slice z9 n9 c9,.bool y9,.slice uP uc ut,.int .i64 p9,.int .i64 (d.res.ps:Int),.int .i64 d.res.bare] 62)
 have bB:=zh cS
 have Eh:=zh (HP.gb dp)
 have KY:=zh (Below.gb dp ik)
 have qk:=zh (bU.none (b:=b) dp)
 have Bc:Hid (b0≠b):=zh (by have:=EO.out;omega)
 clear cS dp
 try rw [<-hW]
 try rw [e0]
 clear e0 hW
 obtain⟨U,Y,Z,r3,r4,r5,r6,r7,r8,r9,wM,vG,ve,wE,yh,L⟩:=br bB
 have Zp:=Eh
 cases aL
 case' false=>
  have Eh:Hid (PD B b (s++J) W):=zh (by rw [<-PN.out];simpa using Zp.out)
  clear Zp
  go_wp2_with fail
 case' true=>
  go_wp2_with fail
  refine(tT B b s _ W Zp (by unfold Room;have:=O.out;rw [<-PN.out] at this;have A:(⟨#[112,117,98,32]⟩:ByteArray).size=4:=rfl;simp at this;omega)).mono ?_
  rintro A W' ⟨rfl,cI,cB,Jp⟩
  have Eh:Hid (PD B b (s++J) W'):=zh (by rw [<-PN.out];exact cI)
  have KY:=zh (Below.trans2 KY cB)
  have qk:=zh (bU.trans qk Jp)
  have bB:=zh (Jp _ _ _ bB Dt Bc)
  clear cI cB Jp U Y Z r3 r4 r5 r6 r7 r8 r9 wM vG ve wE yh L Zp
  obtain⟨U,Y,Z,r3,r4,r5,r6,r7,r8,r9,wM,vG,ve,wE,yh,L⟩:=br bB
  go_wp2_with fail
 all_goals
  refine(tT B b _ yn _ Eh (by unfold Room;have:=O.out;have:=aV Xg.out;simp only [Q2];omega)).mono ?_
  rintro A W2 ⟨rfl,cI,cB,Jp⟩
  have KN:Hid (PD B b (s++J++d.res.nm) W2):=zh (by rw [<-Xg.out];exact cI)
  have uv:=zh (Below.trans2 KY cB)
  have QC:=zh (bU.trans qk Jp)
  have pD:=zh (Jp _ _ _ bB Dt Bc)
  clear cI cB Jp U Y Z r3 r4 r5 r6 r7 r8 r9 wM vG ve wE yh L Eh bB KY qk
  obtain⟨U,Y,Z,r3,r4,r5,r6,r7,r8,r9,wM,vG,ve,wE,yh,L⟩:=br pD
  go_wp2_with fail
  clear U Y Z r3 r4 r5 r6 r7 r8 r9 wM vG ve wE yh L
  go_loopg [17] H (fun gk iv wr=>∃E:Nat,E<=H/\iv=.int .i64 (E:Int)/\H - E<=gk/\gk<=H/\Hid (PD B b (s++J++d.res.nm++(d.ps.take E).flatMap jd) wr)/\Hid (Below B w wr)/\Hid (bU b W2 wr))
  case atStart=>exact⟨0,zero_le _,rfl,by omega,Nat.le_refl _,zh (by rw [take_zero,flatMap_nil,append_nil];exact KN),uv,zh (fun bs cs bF I _ _=>I)⟩
  case round=>
   obtain⟨E,hj,rfl,Qc,Zn,lT,nz,YD⟩:=hrel
   have bV:=zh (YD _ _ _ pD Dt Bc)
   have a1:Hid (b<wr.heap.size/\B<=wr.heap.size):=zh ⟨T7 lT,lT.2⟩
   by_cases a4:E<H
   ·obtain⟨m,hf⟩:∃m,d.ps[E]? = some m:=⟨d.ps[E]'(by rw [HN.out];exact a4),QS _⟩
    obtain⟨ap,zc,bs,bM,cr,rfl,bN,a6,FG,aJ,c0,c1,c2,c3,c4⟩:=pK (HK wr nz).1 (HK wr nz).2 hf
    have av:=gn hf
    have JU:=zh (fun ak W h4 h5=>bm m av ap zc cr ak W h4 h5 aJ)
    have GE:=zh (bX.pars m av)
    have HZ:=zh (fun (W:World) (h:Below B wr W)=>(show GAt 8 W ap cr/\LsE F W m.cl cr from⟨nP (jk FG) a6 (fun h0=>aJ (length_pos_iff.1 h0)) (Fr2.ofBelow h) (fun k R A=>by have:=HF k R;have A:B<=k:=A;omega),LsE.same (Fr2.ofBelow h) (fun k R A=>by have:=HF k R;have A:B<=k:=A;omega) FG⟩))
    have cu:Hid ((d.ps.take (E+1)).flatMap jd=(d.ps.take E).flatMap jd++jd m):=zh (ib jd hf)
    have TS:Hid (((d.ps.take E).flatMap jd).length+(1+(m.nm.length+(dW m.base m.cl).length))<=(d.ps.flatMap jd).length):=zh (by
     have I:=gS jd d.ps (E+1)
     rw [cu.out,Q2] at I
     have h2:(jd m).length=1+(m.nm.length+(dW m.base m.cl).length):=by unfold jd;simp only [hJ,Q2];omega
     omega)
    obtain⟨yf,nZ⟩:∃ao:ByteArray,(⟨m.nm.toArray⟩:ByteArray)=ao:=⟨_,rfl⟩
    have Fc:Hid (yf.data.toList=m.nm):=zh (by rw [<-nZ])
    rw [nZ] at c0
    have kw:=aV Fc
    have eD:¬ 9223372036854775807<1+yf.size:=by have:=GE.name;omega
    obtain⟨fl,a3⟩:=zx m.cl.length
    rw [a3] at c2 JU
    have i1:(0:Int)<=(E:Int):=by omega
    have i2:(E:Int)<(H:Int):=by omega
    have i3:decide (E<H)=true:=zd a4
    have i4:decide ((E:Int)<(H:Int))=true:=zd i2
    clear hf av a6 FG aJ nZ kw a3
    go_wp2_with fail
    obtain⟨WX,b5,Ow,e5,yr,oT⟩:=Sx wr (.cells #[.string yf,.int .i64 (m.base:Int),.slice ap fl zc,.int .i64 (m.ps:Int),.int .i64 m.bare] 73)
    have uz:=zh yr;have aO:=zh oT;have Ef:=zh e5
    clear yr oT c0 c1 c2 c3 c4 bN
    try rw [<-Ow]
    try rw [e5]
    clear e5 Ow
    refine(tT B b _ _ WX (lT.gb aO) (by
     unfold Room
     have I:=O.out;have h2:=TS.out;have h3:=aV Fc
     simp only [Q2,ByteArray.size_append]
     have A:(⟨#[32]⟩:ByteArray).size=1:=rfl
     omega)).mono ?_
    rintro A W3 ⟨rfl,jL,fa,LF⟩
    have My:Hid (PD B b (s++J++d.res.nm++(d.ps.take E).flatMap jd++(32::m.nm)) W3):=zh (by
     have A:((⟨#[32]⟩:ByteArray)++yf).data.toList=32::m.nm:=by simp [bo,Fc.out]
     rw [<-A];exact jL)
    have vD:Hid (Below B wr W3):=zh (Below.trans2 (Below.gb aO a1.2) fa)
    have UM:Hid (bU b wr W3):=zh (bU.trans (bU.none aO) LF)
    have bn:=zh (LF _ _ _ uz aab (by have:=Ef.out;have:=a1.1;omega))
    obtain⟨c0,c1,c2,c3,c4,c5⟩:=bC bn
    clear jL fa LF eD
    go_wp2_with fail
    refine(JU _ W3 (HZ W3 vD).1 (HZ W3 vD).2 My (by
     unfold Room
     have I:=O.out;have h2:=TS.out
     simp only [Q2,hJ]
     omega)).mono ?_
    rintro A W4 ⟨rfl,VH,PY,ZS⟩
    have a8:Hid (PD B b (s++J++d.res.nm++(d.ps.take (E+1)).flatMap jd) W4):=zh (by
     rw [cu.out]
     have A:s++J++d.res.nm++((d.ps.take E).flatMap jd++jd m)=s++J++d.res.nm++(d.ps.take E).flatMap jd++(32::m.nm)++dW m.base m.cl:=by simp [jd]
     rw [A];exact VH)
    have C6:Hid (Below B w W4):=zh (Below.trans2 nz (Below.trans2 vD PY))
    have a7:Hid (bU b W2 W4):=zh (bU.trans YD (bU.trans UM ZS))
    have Wg:H<=10000:=qr
    have bL:IntKind.i64.wrap ((E:Int)+1)=((E+1:Nat):Int):=by rw [IntWalk.i64_in _ (by omega)];omega
    clear VH PY ZS c0 c1 c2 c3 c4 c5
    go_wp2_with fail
    go_roundg (H - (E+1))
    case measure=>omega
    case rel=>exact⟨E+1,by omega,by first | rfl | go_num,Nat.le_refl _,by omega,a8,C6,a7⟩
   ·obtain rfl:E=H:=by omega
    have NN:=lT.out
    rw [V7 (by have:=HN.out;omega)] at NN
    have PX:=zh NN
    clear NN lT
    go_wp2_with fail
    refine(tT B b _ _ wr PX (by
     unfold Room
     have I:=O.out
     simp only [Q2]
     have A:(⟨#[32]⟩:ByteArray).size=1:=rfl
     omega)).mono ?_
    rintro A W5 ⟨rfl,a5,rX,ax⟩
    have bc:Hid (PD B b (s++J++d.res.nm++d.ps.flatMap jd++[32]) W5):=zh a5
    have uz:Hid (Below B w W5):=zh (Below.trans2 nz rX)
    have YQ:Hid (bU b W2 W5):=zh (bU.trans YD ax)
    have E3:=zh (ax _ _ _ bV Dt Bc)
    obtain⟨U,Y,Z,r3,r4,r5,r6,r7,r8,r9,wM,vG,ve,wE,yh,L⟩:=br E3
    clear a5 rX ax
    go_wp2_with fail
    refine(a0 _ W5 uz bc (by
     unfold Room
     have I:=O.out
     simp only [Q2,hJ,length_nil]
     omega)).mono ?_
    rintro A W6 ⟨rfl,Uz,P9,YJ⟩
    have aX:=zh Uz
    have Eu:Hid (Below B w W6):=zh (Below.trans2 uz P9)
    have SG:Hid (bU b W2 W6):=zh (bU.trans YQ YJ)
    have Qm:=zh (YJ _ _ _ E3 Dt Bc)
    clear Uz P9 YJ U Y Z r3 r4 r5 r6 r7 r8 r9 wM vG ve wE yh L
    obtain⟨U,Y,Z,r3,r4,r5,r6,r7,r8,r9,wM,vG,ve,wE,yh,L⟩:=br Qm
    go_wp2_with fail
    refine(mf W6 Eu).mono ?_
    rintro A W7 ⟨⟨ao,rfl,hy⟩,dV⟩
    have HY:=zh hy
    have bd:=zh (aX.gb dV)
    have i8:Hid (Below B w W7):=zh (Below.trans2 Eu (Below.gb dV aX.2))
    have fh:Hid (bU b W2 W7):=zh (bU.trans SG (bU.none dV))
    have bu:=aV hy
    have ZM:(cL d.body).length<=100000:=bX.body.len
    have k1:¬ 9223372036854775807<3+ao.size:=by omega
    have k2:¬ 9223372036854775807<3+ao.size+1:=by omega
    clear hy dV bu ZM U Y Z r3 r4 r5 r6 r7 r8 r9 wM vG ve wE yh L
    go_wp2_with fail
    refine(tT B b _ _ W7 bd (by
     unfold Room
     have I:=O.out;have h2:=aV HY
     simp only [Q2,hJ,length_nil,ByteArray.size_append]
     have A:(⟨#[32,61,32]⟩:ByteArray).size=3:=rfl
     have e2:(⟨#[10]⟩:ByteArray).size=1:=rfl
     omega)).mono ?_
    rintro A W8 ⟨rfl,ay,I1,TB⟩
    have bi:Hid (PD B b (s++jF d) W8):=zh (by
     have A:((⟨#[32,61,32]⟩:ByteArray)++ao++⟨#[10]⟩).data.toList = [32,61,32]++(cL d.body++[10]):=by simp [bo,HY.out]
     rw [A] at ay
     have e2:s++jF d=s++J++d.res.nm++d.ps.flatMap jd++[32]++dW d.res.base d.res.cl++([32,61,32]++(cL d.body++[10])):=by rw [xw.out];simp
     rw [e2];exact ay)
    have MU:Hid (Below B w W8):=zh (Below.trans2 i8 I1)
    have ZK:Hid (bU b w W8):=zh (bU.trans QC (bU.trans fh TB))
    clear ay I1 TB k1 k2
    go_wp2_with fail
    refine bodyPost_end (results_none rfl _ _ _) rfl ?_
    exact⟨rfl,bi,MU,ZK⟩
set_option maxHeartbeats 64000000
theorem ND (T:List Tok) (N:List Nd) (K:Nat->Option Addr×Nat) (pt pn:Option Addr) (ct cn aL:Nat) (aJ:RIH T N K pt pn ct cn aL) (hT:T.length<=40000) (hN:N.length<=150000)
  (n:Nat) (ks:List Int) (kd:Nat) (l:List Tr) (R:N[n]? = some ⟨(kd:Int),-1,ks⟩) (dL:KT N n ks l) (hm:bK l<=aL) (mA:l.length<=150000) (dx:fj l) (eB:∀z∈cg l,z<T.length) (lx:WEs T l) (hs:ShE T kd l) (A:kd=10)
  (w:World) (ht:bl w pt (T.map toI)) (hw:al w pn N K):
  Calls Tryz.prog 58 #[.agg #[.slice pt T.length ct,.slice pn N.length cn],.int .i64 (n:Int)] w (iq (axT T (.nd kd l)) w):=by
 have HM:=zh (fun (op ps:Nat) W J h2=>pz T N K pt pn ct cn aL aJ hT hN n ks (kd:Int) l R dL hm mA dx (gU lx dx eB) op ps W J h2)
 have Gt:=zh aJ;have kA:=zh dL;have sE:=zh dx;have lY:=zh eB;have K0:=zh lx;have qm:=zh hs;have lj:=zh hm;have nQ:=zh hT;have xx:=zh hN
 obtain⟨k0,ak,y1,y2,ap,oh,yO,tr⟩:=gN (K:=K) (pt:=pt) (pn:=pn) (ct:=ct) (cn:=cn) hT hN dL dx eB (by cases hs<;>simp)
 have Ai:=zh yO
 have lC:=zh tr
 obtain⟨kI,se⟩:∃kI:Int,(kd:Int)=kI:=⟨_,rfl⟩
 have jm:=zh se
 rw [se] at R
 obtain⟨aq,au,rfl,bN,c0,c1,c2⟩:=bZ hw R
 have iE:=zh (hw.2 n _ R)
 have hn:n<N.length:=(Q4.1 R).1
 have HW:=zh hw;have HT:=zh ht
 have lH:=zh dL.1
 obtain⟨ao,hM⟩:=zx N.length
 obtain⟨tm,kK⟩:=zx T.length
 obtain⟨L,ge⟩:=zx ks.length
 have Qy:0<L:=by rw [<-ge,lH.out];cases hs<;>simp
 have Ei:=zh hM;have ue:=zh kK;have uL:=zh ge
 simp only at c0 c1 c2
 rw [hM] at hn hN HM lC ⊢
 rw [kK] at hT HM lC ⊢
 rw [ge] at c2
 obtain⟨kq,kV⟩:=zx (K n).1
 obtain⟨kc,px⟩:=zx (K n).2
 have iE:Hid (VAt w kq (ar ks)):=zh (by rw [<-kV];exact iE)
 rw [kV,px] at c2
 have d1:decide (n<ao)=true:=zd hn
 have ml:=zE ((n:Int)<(ao:Int))
 have mR:Hid (aq<w.heap.size):=zh bN
 obtain⟨U,dR,rfl,je,v0⟩:=bO iE oh
 have mJ:Hid (U<w.heap.size):=zh je
 rw [Nat.add_zero] at v0
 have xA:=zh v0
 have z0:(0:Int)<(L:Int):=by omega
 have yF:decide ((0:Int)<(L:Int))=true:=zd z0
 have EK:=zE (0<L)
 obtain⟨a5,hX⟩:=zx (axT T (.nd kd l))
 have HX:=zh hX
 rw [hX]
 clear R hw ht aJ hM kK ge kV px dx hm mA eB lx tr oh dL v0 hT hN hs se yO hX
 have jo:=af (af (qn w (.cells #[.slice pt tm ct,.slice (some ⟨aq,au,none⟩) ao cn] 46) none) (.cells #[.int .i64 0,.string ⟨#[]⟩,.string ⟨#[]⟩,.string ⟨#[]⟩,.bool false,.slice none 0 0,.int .i64 0] 68)) (.cells #[.int .i64 kI,.int .i64 (-1),.slice (some ⟨U,dR,none⟩) L kc] 86)
 have c0:=jo.cell c0 (by simp)
 have c1:=jo.cell c1 (by simp)
 have c2:=jo.cell c2 (by simp)
 go_enter Tryz.func58,Tryz.ntmps58
 go_wp2_with fail
 obtain⟨W,O,b1,b2,hW,e0,e1,e2,cS,dq,ec,dp,lu,oR⟩:=three w (.cells #[.slice pt tm ct,.slice (some ⟨aq,au,none⟩) ao cn] 46) (.cells #[.int .i64 0,.string ⟨#[]⟩,.string ⟨#[]⟩,.string ⟨#[]⟩,.bool false,.slice none 0 0,.int .i64 0] 68) (.cells #[.int .i64 kI,.int .i64 (-1),.slice (some ⟨U,dR,none⟩) L kc] 86)
 have ky:W.heap.size=b2+1:=by rw [hW];simp;omega
 have B:=zh cS;have Z:=zh dq;have Y:=zh ec;have bm:=zh dp;have gj:=zh e0;have ll:=zh e1;have uh:=zh ky
 clear cS dq ec dp c2 jo c0 c1
 try rw [<-hW]
 try rw [e2]
 try rw [e1]
 try rw [e0]
 clear e0 e1 e2 hW ky
 obtain⟨G,H,a2⟩:=ac B
 obtain⟨n0,n1,n2,n3⟩:=cells3 Y
 have v0:=bm.cell xA (by simp)
 have dZ:O<W.heap.size:=hlt B
 have cB:b2<W.heap.size:=hlt Y
 have kB:U<W.heap.size:=zn mJ bm.size
 go_cut [6] (fun t6 wx=>Hid (kr W b2 ak y1 y2 ap t6 wx))
 case first=>
  go_region_held3 (fun m=>m.cell? ⟨O,0,none⟩=some (.slice pt tm ct)/\m.cell? ⟨O,1,none⟩=some (.slice (some ⟨aq,au,none⟩) ao cn)/\m.cell? ⟨b2,2,none⟩=some (.slice (some ⟨U,dR,none⟩) L kc)/\m.cell? ⟨U,dR,none⟩=some (.int .i64 (k0:Int)))
   (first | with_reducible exact⟨G,H,n2,v0⟩ | with_reducible exact⟨di G (by omega),di H (by omega),di n2 (by omega),di v0 (by omega)⟩ | go_keep)
   (first | (go_at_call 25;refine(lC _ (HT.kept (aa bm gbx)) (HW.kept (aa bm gbx))).mono ?_;rintro ax w2 ⟨rfl,bL⟩;(try (have mB:=bx bL (YK W (.cells #[.int .i64 0,.string ⟨#[]⟩,.string ⟨#[]⟩,.int .i64 0] 88))));(try (have xR:=cx mB;obtain⟨q0,q1,q2,q3,q4⟩:=xR));have E:=zh (aa (show W.grownBy _ none from gbx) bL);obtain⟨G,H,a2⟩:=ac (bx E B);obtain⟨n0,n1,n2,n3⟩:=cells3 (bx E Y);have v0:=E.cell v0 (by simp);clear bL))
  all_goals
   have s2:W.heap.size<=w2.heap.size:=E.size
   go_wp2_with fail
   go_meet
   first
    | (with_reducible refine zh (jH E.out ?_)
       omega)
    | (with_reducible refine zh (jz E.out (Nat.le_refl _) cB mB))
 case rest=>
  obtain⟨b3,rfl,fa,JZ,I⟩:=hcut.out
  have gh:=zh (aa bm I)
  have B:=zh (bx I B);have Z:=zh (bx I Z);have Y:=zh (bx I Y);have ie:=zh fa
  have HT:=zh (HT.kept gh);have HW:=zh (HW.kept gh)
  have ll:Hid (w.heap.size<=b1/\b1<b2):=zh (by have:=ll.out;omega)
  obtain⟨G,H,a2⟩:=ac B
  obtain⟨n0,n1,n2,n3⟩:=cells3 Y
  obtain⟨t0,t1,t2,t3,t4⟩:=cx ie
  have dZ:O<wc.heap.size:=hlt B
  have eg:b1<wc.heap.size:=hlt Z
  have Sc:Hid (b1<wc.heap.size):=zh eg
  have cB:b2<wc.heap.size:=hlt Y
  have fa:b3<wc.heap.size:=hlt ie
  have kB:U<wc.heap.size:=zn mJ gh.size
  clear hcut I
  have hs:=qm.out
  cases hs with
  | let_ i j k' m' av aO J h2=>exact absurd A (by decide)
  | if_ i j k' av aO v J h2 h3=>exact absurd A (by decide)
  | assert_ i j av aO J h2=>exact absurd A (by decide)
  | bin i av aO J h2 h3=>
    cases av with
    | lf _=>simp [isN] at J
    | nd m1 q1=>
      clear A
      obtain rfl:kI=10:=by rw [<-jm.out];rfl
      have R:=HX.symm.trans (agx T m1 i q1 _)
      obtain⟨k1,a1,a4,K5,Un,eD,a0,DN,BM⟩:=fV (K:=K) (pt:=pt) (pn:=some ⟨aq,au,none⟩) (ct:=ct) (cn:=cn) nQ xx kA (j:=1) (i:=i) rfl (lY i (by simp [cg,lvT]))
      rw [ue.out,Ei.out] at BM
      have BW:=zh BM;have Wk:=zh a0
      obtain⟨g',nS,fQ,-,v1⟩:=bO iE eD
      injection fQ with fQ;injection fQ with es cI;subst es cI
      have lk:=zh v1
      have v1:=gh.cell lk (by simp)
      rw [<-DN] at R
      have dU:=lH.out
      rw [uL.out] at dU
      simp only [hJ,length_nil] at dU
      have z1:(1:Int)<(L:Int):=by omega
      have Vs:decide ((1:Int)<(L:Int))=true:=zd z1
      have Vc:=zE (1<L)
      clear dU
      obtain⟨ay,ho⟩:=zx (kE (tkT T i).text)
      rw [ho] at R
      subst R
      clear HX eD a0 DN BM
      have SP:Hid (∀W,Calls Tryz.prog 93 #[.string K5] W (fun ax m=>ax=.returned (.int .i64 (ay:Int))/\W.grownBy m none)):=zh (fun W=>by rw [<-ho,Wk.out];exact aad _ W)
      clear ho
      go_wp2_with fail
      obtain⟨wk,rfl⟩:∃wk,wk=wc:=⟨_,rfl⟩
      go_cut [8] (fun t8 wx=>Hid (kr wk b3 a1 a4 K5 Un t8 wx))
      case first=>
       go_region_held3 (fun m=>m.cell? ⟨O,0,none⟩=some (.slice pt tm ct)/\m.cell? ⟨O,1,none⟩=some (.slice (some ⟨aq,au,none⟩) ao cn)/\m.cell? ⟨b2,2,none⟩=some (.slice (some ⟨U,dR,none⟩) L kc)/\m.cell? ⟨U,dR+1,none⟩=some (.int .i64 (k1:Int)))
        (first | with_reducible exact⟨G,H,n2,v1⟩ | with_reducible exact⟨di G (by omega),di H (by omega),di n2 (by omega),di v1 (by omega)⟩ | go_keep)
        (first | (go_at_call 25;refine(BW _ (HT.kept gbx) (HW.kept gbx)).mono ?_;rintro ax w2 ⟨rfl,bL⟩;(try (have mB:=bx bL (YK wk (.cells #[.int .i64 0,.string ⟨#[]⟩,.string ⟨#[]⟩,.int .i64 0] 88))));(try (have xR:=cx mB;obtain⟨q0,q1,q2,q3,q4⟩:=xR));have E:=zh (aa (show wk.grownBy _ none from gbx) bL);obtain⟨G,H,a2⟩:=ac (bx E B);obtain⟨n0,n1,n2,n3⟩:=cells3 (bx E Y);have v1:=E.cell v1 (by simp);clear bL))
       all_goals
        have s2:wk.heap.size<=w2.heap.size:=E.size
        go_wp2_with fail
        go_meet
        first
         | (with_reducible refine zh (jH E.out ?_)
            omega)
         | (with_reducible refine zh (jz E.out (Nat.le_refl _) fa mB))
      case rest=>
       obtain⟨b8,rfl,I1,a7,I⟩:=hcut.out
       have aX:=zh I
       have B:=zh (bx I B);have Z:=zh (bx I Z);have MU:=zh I1
       have HT:=zh (HT.kept I);have HW:=zh (HW.kept I)
       obtain⟨G,H,a2⟩:=ac B
       obtain⟨t0,t1,t2,t3,t4⟩:=cx MU
       have dZ:O<wc.heap.size:=hlt B
       have eg:b1<wc.heap.size:=hlt Z
       have I1:b8<wc.heap.size:=hlt MU
       clear hcut I n0 n1 n2 n3 v1
       go_wp2_with fail
       have a6:b1<b8:=by have:=ll.out;omega
       go_region_held3 (fun m=>m.cell? ⟨O,0,none⟩=some (.slice pt tm ct)/\m.cell? ⟨O,1,none⟩=some (.slice (some ⟨aq,au,none⟩) ao cn)/\m.cell? ⟨b8,2,none⟩=some (.string K5)/\m.cell? ⟨b8,3,none⟩=some (.int .i64 (Un:Int)))
        (first | with_reducible exact⟨G,H,t2,t3⟩ | with_reducible exact⟨Hj G (by omega),Hj H (by omega),Hj t2 (by omega),Hj t3 (by omega)⟩ | go_keep)
        (first
        | (go_at_call 93;refine(SP _).mono ?_;rintro ax w4 ⟨rfl,lO⟩;have ir:=zh (aa (show wc.grownBy _ none from gbx) lO);obtain⟨G,H,a2⟩:=ac (bx ir B);obtain⟨t0,t1,t2,t3,t4⟩:=cx (bx ir MU);have dZ:O<w4.heap.size:=zn dZ ir.size;have I1:b8<w4.heap.size:=zn I1 ir.size;clear lO)
        | (go_at_call 92;refine(HM ay Un _ (HT.kept (aa ir gbx)) (HW.kept (aa ir gbx))).mono ?_;rintro ax w5 ⟨dw,a8,rfl,hq⟩;obtain⟨pk,nk,ck,rfl,qp⟩:=hq.plain;have HQ:=zh qp;have ef:=zh (aa ir (aa (show w4.grownBy _ none from gbx) dw));have ik:=zh (bx ef Z);obtain⟨f0,f1,f2,f3,f4,f5,f6,f7⟩:=aN ik.out;have eg:b1<w5.heap.size:=hlt ik.out;obtain⟨G,H,a2⟩:=ac (bx ef B);obtain⟨t0,t1,t2,t3,t4⟩:=cx (bx ef MU);clear dw hq qp))
       all_goals
        go_wp2_with fail
        have HP:=zh (fp (w:=w) (aa gh (aa aX ef)) ll.1 ik (HQ.out [] []) (fun a3 A=>by have h2:=gh.size;have h3:=hlt Z.out;have h4:=aX.size;have h5:=ir.size;have A:w4.heap.size<=a3:=A;exact⟨by omega,by omega⟩))
        obtain⟨hp,-⟩:=ju ik (.int .i64 (ay:Int)) (.string ⟨#[]⟩) (.string ⟨#[]⟩) (.string ⟨#[]⟩) (.bool false) (.slice pk nk ck) (.int .i64 (Un:Int))
        obtain⟨r0,r1,r2,r3,r4,r5,r6,-⟩:=aN hp
        refine bodyPost_ret (v:=.agg #[(.int .i64 (ay:Int)),(.string ⟨#[]⟩),(.string ⟨#[]⟩),(.string ⟨#[]⟩),(.bool false),(.slice pk nk ck),(.int .i64 (Un:Int))]) (by simp [results,Tryz.results58,go_sem,r0,r1,r2,r3,r4,r5,r6]) rfl HP
  | una i av J h2=>exact absurd A (by decide)
  | grp i j av J=>exact absurd A (by decide)
  | call i j l' J=>exact absurd A (by decide)
  | callm i j k3 l' J=>exact absurd A (by decide)
  | nam i=>exact absurd A (by decide)
  | num i J=>exact absurd A (by decide)
  | tru i=>exact absurd A (by decide)
  | res i=>exact absurd A (by decide)
end Go.Proofs.YtpkipghjohomcaaGreatDoor
