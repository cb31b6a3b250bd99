/- Lemmas. -/
import Derived.Deep.Upon
import Derived.Test.YtjbgnopnehgbaaaGreatDoorP48
import Derived.Test.YtjbgnopnehgbaaaGreatDoorP51
set_option linter.unusedVariables false
set_option linter.unusedSimpArgs false
namespace Go.Proofs.YtjbgnopnehgbaaaGreatDoor
open Go.RowKit
theorem KL:∀(d:List PcV) (j:Nat),j<d.length*3→(d.map fQ).flatten[j]? = some ((fQ d[j / 3]!)[j % 3]!)
 | [],j,h=>by simp at h
 | x::d,j,h=>by
   simp only [List.map_cons,List.flatten_cons]
   by_cases h3:j<3
   ·rw [List.getElem?_append_left (by rw [lV];exact h3)]
    have:j=0∨j=1∨j=2:=by omega
    rcases this with rfl | rfl | rfl<;>rfl
   ·rw [List.getElem?_append_right (by rw [lV];omega),lV]
    rw [KL d (j - 3) (by simp only [List.length_cons] at h;omega)]
    have e1:j / 3=(j - 3) / 3+1:=by omega
    have e2:j % 3=(j - 3) % 3:=by omega
    rw [e1,e2]
    rfl
theorem Lb:∀(d:List PcV),(d.map fQ).flatten.length=d.length*3
 | []=>rfl
 | x::d=>by simp only [List.map_cons,List.flatten_cons,List.length_append,Lb d,lV,List.length_cons];omega
theorem wE (d:List PcV) (j:Nat) (h:j<d.length*3):some (Go.Sort.flatK fQ 3 d.toArray)[j]! = (d.map fQ).flatten[j]? := by
 rw [Go.Sort.get_flatK fQ 3 d.toArray j (by simpa using h),KL d j h]
 simp
theorem DV {w:World} {g cap n:Nat} {B:Nat} {rows:List (List Value)} {d:List PcV} (hO:ak 3 140 w B (.slice (some ⟨g,0,none⟩) n cap) (rows++d.map fQ)):Go.Sort.HoldsK fQ 3 w g (rows.length*3) d.toArray:=by
 obtain⟨⟨hln,ho⟩,hw⟩:=hO
 have nA:rows.flatten.length=rows.length*3:=dc (s:=3) (fun q hq=>hw q (List.mem_append_left _ hq))
 rcases ho with ⟨h,-⟩ | ⟨g',bH,fp,he,hb,hg,h1,h2,h3,h4⟩
 ·simp at h
 simp only [Value.slice.injEq,Option.some.injEq,Addr.mk.injEq,and_true] at he
 obtain⟨rfl,hn,rfl⟩:=he
 intro j hj
 have hj:j<d.length*3:=by simpa using hj
 have hx:fp[rows.length*3+j]? = some ((Go.Sort.flatK fQ 3 d.toArray)[j]!):=by
  rw [wE d j hj]
  have h5:(fp.toList.take ((rows++d.map fQ).length*3))[rows.length*3+j]? = (d.map fQ).flatten[j]? := by
   rw [h4,List.flatten_append,List.getElem?_append_right (by omega),nA]
   congr 1;omega
  rw [List.getElem?_take,if_pos (by simp only [List.length_append,List.length_map];omega)] at h5
  rw [←h5];simp
 refine⟨?_,?_⟩
 ·rw [cell_of_row w g _ _ _ (0,0) hg];exact hx
 ·simp [World.frozen?,hg]
theorem MU {w:World} {g cap n k:Nat} {B:Nat} {rows:List (List Value)} {d:List PcV} (hO:ak 3 140 w B (.slice (some ⟨g,0,none⟩) n cap) (rows++d.map fQ)):
  ak 3 140 (Go.Sort.putRowK fQ 3 (Go.Sort.ahead w k) g (rows.length*3) d.toArray.reverse) B (.slice (some ⟨g,0,none⟩) n cap) (rows++d.reverse.map fQ):=by
 obtain⟨⟨hln,ho⟩,hw⟩:=hO
 have nA:rows.flatten.length=rows.length*3:=dc (s:=3) (fun q hq=>hw q (List.mem_append_left _ hq))
 have bB:(rows++d.reverse.map fQ).length=(rows++d.map fQ).length:=by simp
 have eE:Wid 3 (rows++d.reverse.map fQ):=fun q hq=>by
  rcases List.mem_append.1 hq with h | h
  ·exact hw q (List.mem_append_left _ h)
  ·obtain⟨x,hx,rfl⟩:=List.mem_map.1 h
   exact⟨rfl,Al x⟩
 rcases ho with ⟨h,-⟩ | ⟨g',bH,fp,he,hb,hg,h1,h2,h3,h4⟩
 ·simp at h
 simp only [Value.slice.injEq,Option.some.injEq,Addr.mk.injEq,and_true] at he
 obtain⟨rfl,hn,rfl⟩:=he
 refine⟨⟨dc eE,.inr ⟨g,cap,Go.Sort.putCells id (rows.length*3) (Go.Sort.flatK fQ 3 d.toArray.reverse) fp,by rw [bB,←hn],hb,?_,by rw [bB];exact h1,h2,?_,?_⟩⟩,eE⟩
 ·simp [Go.Sort.putRowK,Go.Sort.putRow,Go.Sort.mapBlock,Array.getElem?_modify,hg,Go.Sort.onCells]
 ·simp only [Go.Sort.putCells,Array.size_mapIdx];exact h3
 ·have hT:(rows++d.map fQ).length*3=rows.length*3+d.length*3:=by simp only [List.length_append,List.length_map];omega
  rw [bB,hT]
  apply List.ext_getElem?
  intro j
  rw [List.flatten_append]
  by_cases hj:j<rows.length*3+d.length*3
  ·rw [List.getElem?_take,if_pos hj,Array.getElem?_toList]
   have hcj:j<fp.size:=by rw [h3];have:=Nat.mul_le_mul_right 3 h1;omega
   have Pn:((rows++d.map fQ).flatten)[j]? = fp[j]? := by rw [←h4,List.getElem?_take,if_pos (by omega),Array.getElem?_toList]
   by_cases hr:j<rows.length*3
   ·rw [List.getElem?_append_left (by omega)]
    rw [List.flatten_append,List.getElem?_append_left (by omega)] at Pn
    rw [Pn]
    simp only [Go.Sort.putCells,Array.getElem?_mapIdx]
    rw [Array.getElem?_eq_getElem hcj,Option.map_some,if_neg (by omega)]
   ·rw [List.getElem?_append_right (by omega),nA]
    have e1:d.toArray.reverse=d.reverse.toArray:=by simp
    rw [e1,←wE d.reverse (j - rows.length*3) (by simp only [List.length_reverse];omega)]
    simp only [Go.Sort.putCells,Array.getElem?_mapIdx,Go.Sort.size_flatK,List.size_toArray,List.length_reverse]
    rw [Array.getElem?_eq_getElem hcj,Option.map_some,if_pos (by omega)]
    rfl
  ·rw [List.getElem?_take,if_neg hj]
   symm
   apply List.getElem?_eq_none
   rw [List.length_append,nA,Lb,List.length_reverse];omega
theorem VG {w:World} {g k off:Nat} {F:Array PcV} {S:Nat→Prop} (hS:S g):Fr2 S w (Go.Sort.putRowK fQ 3 (Go.Sort.ahead w k) g off F):=by
 refine⟨rfl,rfl,rfl,?_,fun j hj hn=>?_⟩
 ·simp [Go.Sort.putRowK]
 ·have bl:g≠j:=fun e=>hn (e▸hS)
  simp [Go.Sort.putRowK,Go.Sort.putRow,Go.Sort.mapBlock,Array.getElem?_modify,bl]
theorem XX (S:Nat→Prop) (B b:Nat) (rows:List (List Value)) (d:List PcV) (g n cap bH:Nat) (w:World) (h:bj S B b w (rows++d.map fQ)) (c0:w.cell? ⟨b,0,none⟩=some (.slice (some ⟨g,0,none⟩) n cap)) (hl:d.length≤1000000):
  Calls Tryz.prog 67 #[.slice (some ⟨g,rows.length*3,none⟩) d.length bH] w (dy S B b (rows++d.reverse.map fQ) w):=by
 obtain⟨v,hb,hO,kK,hB,p8,pK,mp⟩:=h
 rw [cell_of_row w b 0 _ _ (0,0) hb] at c0
 have c0:v=.slice (some ⟨g,0,none⟩) n cap:=Option.some.inj c0
 subst c0
 have hL:=Q0 g (rows.length*3) bH d.toArray w (DV hO) (by rw [List.size_toArray];omega)
 rw [List.size_toArray] at hL
 refine hL.mono ?_
 rintro e w' ⟨rfl,k,rfl⟩
 have oZ:B≤g:=(hO.at g rfl).1
 have hf:Fr2 (fun k=>k=g) w (Go.Sort.putRowK fQ 3 (Go.Sort.ahead w k) g (rows.length*3) d.toArray.reverse):=VG rfl
 refine⟨rfl,⟨_,?_,MU hO,kK,Nat.le_trans hB hf.size,p8,pK,fun k hk=>zn (mp k hk) hf.size⟩,hf.mono (fun k e=>?_)⟩
 ·rw [hf.block b (hlt hb) (fun e=>by have e:b=g:=e;omega)];exact hb
 ·have e:k=g:=e
  rw [e];exact pK g rfl
theorem Fj {F:Nat→Prop} {w:World}:∀ {l:List Pc} {r:List (List Value)},bp F w l r→∃d:List PcV,r=d.map fQ∧d.length=l.length
 | [],r,h=>by have h:r = []:=h;subst h;exact⟨[],rfl,rfl⟩
 | p::l,r,h=>by
   obtain⟨q,r',rfl,h3,h4⟩:=h
   obtain⟨d,rfl,hd⟩:=Fj h4
   cases p with
   | bs s=>
     have h3:q=jt s:=h3
     subst h3
     exact⟨(⟨s.toArray⟩,none,0)::d,rfl,by simp [hd]⟩
   | ex x least=>
     obtain⟨g,o,q',rfl,-⟩:=h3
     exact⟨(⟨#[]⟩,some ⟨g,o,none⟩,(least:Int))::d,rfl,by simp [hd]⟩
theorem bp.rev {F:Nat→Prop} {w:World}:∀ {l:List Pc} {r:List (List Value)},bp F w l r→bp F w l.reverse r.reverse
 | [],r,h=>by have h:r = []:=h;subst h;rfl
 | p::l,r,h=>by
   obtain⟨q,r',rfl,h3,h4⟩:=h
   rw [List.reverse_cons,List.reverse_cons]
   exact bp.app (bp.rev h4) ⟨q,[],rfl,h3,rfl⟩
theorem bp.split {F:Nat→Prop} {w:World}:∀ {l l2:List Pc} {r:List (List Value)},bp F w (l++l2) r→∃r1 r2,r=r1++r2∧bp F w l r1∧bp F w l2 r2
 | [],l2,r,h=>⟨[],r,rfl,rfl,h⟩
 | p::l,l2,r,h=>by
   obtain⟨q,r',rfl,h3,h4⟩:=h
   obtain⟨r1,r2,rfl,h5,h6⟩:=bp.split h4
   exact⟨q::r1,r2,rfl,⟨q,r1,rfl,h3,h5⟩,h6⟩
theorem bj.pop {S:Nat→Prop} {B b g n cap:Nat} {w:World} {rows:List (List Value)} {q:List Value} (h:bj S B b w (rows++[q])) (c0:w.cell? ⟨b,0,none⟩=some (.slice (some ⟨g,0,none⟩) n cap)):
  bj S B b (w.setCell ⟨b,0,none⟩ (.slice (some ⟨g,0,none⟩) rows.length cap)) rows∧Fr2 (fun k=>¬S k) w (w.setCell ⟨b,0,none⟩ (.slice (some ⟨g,0,none⟩) rows.length cap)):=by
 obtain⟨v,hb,hO,kK,hB,p8,pK,mp⟩:=h
 rw [cell_of_row w b 0 _ _ (0,0) hb] at c0
 have c0:v=.slice (some ⟨g,0,none⟩) n cap:=Option.some.inj c0
 subst c0
 have oZ:B≤g:=(hO.at g rfl).1
 have hf:Fr2 (fun k=>k=b) w (w.setCell ⟨b,0,none⟩ (.slice (some ⟨g,0,none⟩) rows.length cap)):=Fr2.setCell (S:=fun k=>k=b) (Fr2.refl _ _) rfl _
 obtain⟨⟨hln,ho⟩,hw⟩:=hO
 have eE:Wid 3 rows:=fun q hq=>hw q (List.mem_append_left _ hq)
 have nA:rows.flatten.length=rows.length*3:=dc eE
 rcases ho with ⟨h,-⟩ | ⟨g',bH,fp,he,fw,hg,h1,h2,h3,h4⟩
 ·simp at h
 simp only [Value.slice.injEq,Option.some.injEq,Addr.mk.injEq,and_true] at he
 obtain⟨rfl,hn,rfl⟩:=he
 have YJ:(rows++[q]).length=rows.length+1:=by simp
 rw [YJ] at h1 h4
 have hO2:ak 3 140 w B (.slice (some ⟨g,0,none⟩) rows.length cap) rows:=by
  refine⟨⟨nA,.inr ⟨g,cap,fp,rfl,fw,hg,by omega,h2,h3,?_⟩⟩,eE⟩
  have h5:=congrArg (List.take (rows.length*3)) h4
  rw [List.take_take,List.flatten_append,List.take_append_of_le_length (by omega),List.take_of_length_le (l:=rows.flatten) (by omega)] at h5
  rw [←h5];congr 1;omega
 refine⟨⟨_,ZO hb,hO2.keptF hf (fun k hk e=>by have e2:g=k:=Option.some.inj (show some g=some k from hk);have e:k=b:=e;omega),kK,Nat.le_trans hB hf.size,p8,fun k hk=>pK k hk,fun k hk=>zn (mp k hk) hf.size⟩,hf.mono (fun k e=>?_)⟩
 have e:k=b:=e
 rw [e];exact p8
theorem bj.cell {S:Nat→Prop} {B b:Nat} {w:World} {rows:List (List Value)} (h:bj S B b w rows) (h0:rows≠[]):∃g cap,w.cell? ⟨b,0,none⟩=some (.slice (some ⟨g,0,none⟩) rows.length cap)∧B≤g∧g<w.heap.size∧¬S g∧b<B∧rows.length≤cap∧∀j,w.frozen? ⟨b,j,none⟩=false:=by
 obtain⟨v,hb,hO,kK,hB,p8,pK,mp⟩:=h
 obtain⟨⟨hln,ho⟩,hw⟩:=hO
 rcases ho with ⟨-,h⟩ | ⟨g,cap,fp,rfl,fw,hg,h1,h2,h3,h4⟩
 ·exact absurd (List.eq_nil_of_length_eq_zero h) h0
 ·exact⟨g,cap,by rw [cell_of_row w b 0 _ _ (0,0) hb];rfl,fw,hlt hg,pK g rfl,kK,h1,fun j=>by simp [World.frozen?,hb]⟩
mutual
theorem RSt.bound {F:Nat→Prop} {w:World}:∀ {x:Sx} {q:List Value},RSt F w x q→RSt (fun k=>F k∧k<w.heap.size) w x q
 | .mk op nm md nu ys ks ps,q,h=>by
   simp only [RSt] at h ⊢
   obtain⟨pk,ck,rows,h1,h3,h4,h5⟩:=h
   refine⟨pk,ck,rows,h1,h3,LsU.bound h4,fun h0=>?_⟩
   obtain⟨a,ha,h6⟩:=h5 h0
   have hr:=h4.len
   rcases h3 with e | ⟨g,off,e,hg,-⟩
   ·rw [e] at hr;exact absurd (List.eq_nil_of_length_eq_zero hr.symm) h0
   ·rw [ha] at e;injection e with e;subst e;exact⟨_,ha,h6,hg⟩
theorem LsU.bound {F:Nat→Prop} {w:World}:∀ {l:List Sx} {r:List (List Value)},LsU F w l r→LsU (fun k=>F k∧k<w.heap.size) w l r
 | [],r,h=>by simp only [LsU] at h ⊢;exact h
 | x::l,r,h=>by
   simp only [LsU] at h ⊢
   obtain⟨q,r',h1,h2,h3⟩:=h
   exact⟨q,r',h1,RSt.bound h2,LsU.bound h3⟩
end
theorem RSt.seven {F:Nat→Prop} {w:World} {x:Sx} {q:List Value} (h:RSt F w x q):∃a0 a1 a2 a3 a4 a5 a6,q = [a0,a1,a2,a3,a4,a5,a6]:=by
 cases x with
 | mk op nm md nu ys ks ps=>
   simp only [RSt] at h
   obtain⟨pk,ck,rows,rfl,-⟩:=h
   exact⟨_,_,_,_,_,_,_,rfl⟩
theorem RSt.one {F:Nat→Prop} {w:World} {x:Sx} {q:List Value} (h:RSt F w x q):q.length=7∧∀u∈q,u.oneCell'=true:=by
 refine⟨h.len,?_⟩
 cases x with
 | mk op nm md nu ys ks ps=>
   simp only [RSt] at h
   obtain⟨pk,ck,rows,rfl,-⟩:=h
   intro u hu
   simp only [List.mem_cons,List.not_mem_nil,or_false] at hu
   rcases hu with rfl | rfl | rfl | rfl | rfl | rfl | rfl<;>rfl
def Fy (x:Sx) (w:World) (e:Ending) (w':World):Prop:=w.grownBy w' none∧∃q,e=.returned (.agg q.toArray)∧RSt (fun k=>w.heap.size≤k) w' x q
theorem Fq {W:World} {B:Nat} {T:TypeId} {x0 x1 x2 x3 x4 x5 x6:Value} (h0:W.heap[B]? = some (.cells #[x0,x1,x2,x3,x4,x5,x6] T (0,0))) (a b c d e f g:Value):(((((((W.setCell ⟨B,0,none⟩ a).setCell ⟨B,1,none⟩ b).setCell ⟨B,2,none⟩ c).setCell ⟨B,3,none⟩ d).setCell ⟨B,4,none⟩ e).setCell ⟨B,5,none⟩ f).setCell ⟨B,6,none⟩ g).heap[B]? = some (.cells #[a,b,c,d,e,f,g] T (0,0))∧Fr2 (fun k=>k=B) W (((((((W.setCell ⟨B,0,none⟩ a).setCell ⟨B,1,none⟩ b).setCell ⟨B,2,none⟩ c).setCell ⟨B,3,none⟩ d).setCell ⟨B,4,none⟩ e).setCell ⟨B,5,none⟩ f).setCell ⟨B,6,none⟩ g):=by
 have h1:(W.setCell ⟨B,0,none⟩ a).heap[B]? = some (.cells #[a,x1,x2,x3,x4,x5,x6] T (0,0)):=ab (i:=0) (u:=a) h0
 have h2:((W.setCell ⟨B,0,none⟩ a).setCell ⟨B,1,none⟩ b).heap[B]? = some (.cells #[a,b,x2,x3,x4,x5,x6] T (0,0)):=ab (i:=1) (u:=b) h1
 have h3:(((W.setCell ⟨B,0,none⟩ a).setCell ⟨B,1,none⟩ b).setCell ⟨B,2,none⟩ c).heap[B]? = some (.cells #[a,b,c,x3,x4,x5,x6] T (0,0)):=ab (i:=2) (u:=c) h2
 have h4:((((W.setCell ⟨B,0,none⟩ a).setCell ⟨B,1,none⟩ b).setCell ⟨B,2,none⟩ c).setCell ⟨B,3,none⟩ d).heap[B]? = some (.cells #[a,b,c,d,x4,x5,x6] T (0,0)):=ab (i:=3) (u:=d) h3
 have h5:(((((W.setCell ⟨B,0,none⟩ a).setCell ⟨B,1,none⟩ b).setCell ⟨B,2,none⟩ c).setCell ⟨B,3,none⟩ d).setCell ⟨B,4,none⟩ e).heap[B]? = some (.cells #[a,b,c,d,e,x5,x6] T (0,0)):=ab (i:=4) (u:=e) h4
 have h6:((((((W.setCell ⟨B,0,none⟩ a).setCell ⟨B,1,none⟩ b).setCell ⟨B,2,none⟩ c).setCell ⟨B,3,none⟩ d).setCell ⟨B,4,none⟩ e).setCell ⟨B,5,none⟩ f).heap[B]? = some (.cells #[a,b,c,d,e,f,x6] T (0,0)):=ab (i:=5) (u:=f) h5
 have hs:(fun k=>k=B) B:=rfl
 exact⟨ab (i:=6) (u:=g) h6,((((((((Fr2.refl (fun k=>k=B) W).setCell hs a).setCell hs b).setCell hs c).setCell hs d).setCell hs e).setCell hs f).setCell hs g)⟩
theorem dn {w:World} {r:Nat} {a b c d e f g:Value} {T:TypeId} (h0:w.heap[r]? = some (.cells #[a,b,c,d,e,f,g] T (0,0))):w.cell? ⟨r,0,none⟩=some a∧w.cell? ⟨r,1,none⟩=some b∧w.cell? ⟨r,2,none⟩=some c∧w.cell? ⟨r,3,none⟩=some d∧w.cell? ⟨r,4,none⟩=some e∧w.cell? ⟨r,5,none⟩=some f∧w.cell? ⟨r,6,none⟩=some g∧∀o,w.frozen? ⟨r,o,none⟩=false:=
 ⟨by rw [cell_of_row w r 0 _ T (0,0) h0];rfl,by rw [cell_of_row w r 1 _ T (0,0) h0];rfl,by rw [cell_of_row w r 2 _ T (0,0) h0];rfl,by rw [cell_of_row w r 3 _ T (0,0) h0];rfl,by rw [cell_of_row w r 4 _ T (0,0) h0];rfl,by rw [cell_of_row w r 5 _ T (0,0) h0];rfl,by rw [cell_of_row w r 6 _ T (0,0) h0];rfl,fun o=>by simp [World.frozen?,h0]⟩
theorem X0:(Tryz.prog.info? 33).map (fun i=>(i.zero,i.size,i.bytes))=some (some (.agg #[.int .i64 0,.string ⟨#[]⟩,.string ⟨#[]⟩,.string ⟨#[]⟩,.bool false,.slice none 0 0,.int .i64 0]),7,96):=by kernel_rfl
theorem gy {S:Nat→Prop} {w a b:World} (h:w.grownBy a none) (k:Fr2 S a b) (hS:∀i,S i→w.heap.size≤i):w.grownBy b none:=
 bz ⟨k.os.trans h.os,k.tape.trans h.tape,k.output.trans h.output,Nat.le_trans h.size k.size,fun i hi=>(k.block i (zn hi h.size) (fun hs=>by have:=hS i hs;omega)).trans (h.block i hi (by simp))⟩
theorem QD {w w4:World} {b1:Nat} {T:TypeId} {x0 x1 x2 x3 x4 x5 x6 a b c d e f g:Value} {F:Nat→Prop} {x:Sx} (rP:w.grownBy w4 none) (hb:w.heap.size≤b1) (hB:w4.heap[b1]? = some (.cells #[x0,x1,x2,x3,x4,x5,x6] T (0,0))) (hX:RSt F w4 x [a,b,c,d,e,f,g]) (hF:∀k,F k→w.heap.size≤k∧k≠b1):
  Fy x w (.returned (.agg #[a,b,c,d,e,f,g])) (((((((w4.setCell ⟨b1,0,none⟩ a).setCell ⟨b1,1,none⟩ b).setCell ⟨b1,2,none⟩ c).setCell ⟨b1,3,none⟩ d).setCell ⟨b1,4,none⟩ e).setCell ⟨b1,5,none⟩ f).setCell ⟨b1,6,none⟩ g):=by
 obtain⟨hp,hf⟩:=Fq hB a b c d e f g
 refine⟨gy rP hf (fun j hj=>by have e:j=b1:=hj;omega),[a,b,c,d,e,f,g],rfl,?_⟩
 exact RSt.mono (fun k hk=>(hF k hk).1) (RSt.same hf (fun k hk e=>(hF k hk).2 e) hX)
def Me (W:World) (v0 v1 v2 v3 v4 v5 v6:Value) (t3:Value) (wx:World):Prop:=∃b2,t3=.pointer (some ⟨b2,0,none⟩)∧wx.heap[b2]? = some (.cells #[v0,v1,v2,v3,v4,v5,v6] 33 (0,0))∧W.heap.size≤b2∧W.grownBy wx none
theorem Ku {W w2:World} {v0 v1 v2 v3 v4 v5 v6:Value} (h:W.grownBy w2 none):Me W v0 v1 v2 v3 v4 v5 v6 (.pointer (some ⟨w2.heap.size,0,none⟩)) (w2.alloc (.cells #[v0,v1,v2,v3,v4,v5,v6] 33)):=
 ⟨w2.heap.size,rfl,heap_alloc_new w2 _,h.size,ae h _⟩
theorem Kq {W w2:World} {b:Nat} {v0 v1 v2 v3 v4 v5 v6 x0 x1 x2 x3 x4 x5 x6:Value} (h:W.grownBy w2 none) (hb:W.heap.size≤b) (hB:w2.heap[b]? = some (.cells #[x0,x1,x2,x3,x4,x5,x6] 33 (0,0))):Me W v0 v1 v2 v3 v4 v5 v6 (.pointer (some ⟨b,0,none⟩)) (((((((w2.setCell ⟨b,0,none⟩ v0).setCell ⟨b,1,none⟩ v1).setCell ⟨b,2,none⟩ v2).setCell ⟨b,3,none⟩ v3).setCell ⟨b,4,none⟩ v4).setCell ⟨b,5,none⟩ v5).setCell ⟨b,6,none⟩ v6):=by
 obtain⟨hp,hf⟩:=Fq hB v0 v1 v2 v3 v4 v5 v6
 exact⟨b,rfl,hp,hb,gy h hf (fun j hj=>by have e:j=b:=hj;omega)⟩
theorem ak.rowsU {s n c:Nat} {T:TypeId} {w:World} {base:Nat} {p:Option Addr} {l:List (List Value)} (h:ak s T w base (.slice p n c) l):n=l.length∧GAt s w p l∧(l≠[]→∃a,p=some a∧base≤a.block∧a.block<w.heap.size):=by
 obtain⟨p',c',e,h1,h2,h3,h4⟩:=h.is
 injection e with e1 e2 e3
 subst e1
 refine⟨e2,h1,fun h0=>?_⟩
 have hl:=List.length_pos_iff.2 h0
 obtain⟨a,ha,hb,hc⟩:=ak.lt h rfl (by omega)
 exact⟨a,ha,hb,hc⟩
theorem XD {wr w7 wa w9 W9:World} {B b2 base nv cv g9 n9 cap9:Nat} {pv:Option Addr} {rows:List (List Value)} {q:List Value} {ks:List Sx} {x:Sx} {u:Value} (hw:B≤wr.heap.size) (hO:ak 7 33 wr base (.slice pv nv cv) rows) (dC:b2<base) (DF:b2<wr.heap.size)
  (hLS:LsU (fun k=>B≤k∧k<wr.heap.size∧k≠b2∧(Value.slice pv nv cv).ownBlock≠some k) wr ks rows) (iG:wr.grownBy w7 none) (hq:RSt (fun k=>wr.heap.size≤k) w7 x q) (dG:w7.grownBy wa none) (sd:wa.heap.size=w7.heap.size+1)
  (eu:wa.grownBy w9 (Value.slice pv nv cv).ownBlock) (ef:(Value.slice pv nv cv).ownBlock=some g9∨g9=w7.heap.size+1) (hf:(w9.setCell ⟨b2,5,none⟩ u).grownBy W9 none):
  LsU (fun k=>B≤k∧k<W9.heap.size∧k≠b2∧(Value.slice (some ⟨g9,0,none⟩) n9 cap9).ownBlock≠some k) W9 (ks++[x]) (rows++[q]):=by
 have Hj:=ak.at hO
 have s7:=iG.size
 have s9:=eu.size
 have sf:=hf.size
 have sc:(w9.setCell ⟨b2,5,none⟩ u).heap.size=w9.heap.size:=by simp [World.setCell]
 have fr:Fr2 (fun k=>(Value.slice pv nv cv).ownBlock=some k∨k=b2) w7 W9:=
  ((Fr2.none dG).trans ((Fr2.of eu (fun k e=>.inl e)).trans ((Fr2.setCell (Fr2.refl _ _) (.inr rfl) u).trans (Fr2.none hf))))
 have bl:∀k,k<w7.heap.size→(Value.slice pv nv cv).ownBlock≠some k→(Value.slice (some ⟨g9,0,none⟩) n9 cap9).ownBlock≠some k:=fun k hk h1 e=>by
  have e:g9=k:=Option.some.inj (show some g9=some k from e)
  rcases ef with h | h
  ·exact h1 (by rw [h,e])
  ·omega
 have oS:∀k,wr.heap.size≤k→(Value.slice pv nv cv).ownBlock≠some k:=fun k hk e=>by have:=Hj _ e;omega
 refine LsU.snoc ?_ ?_
 ·have h1:=RSt.same fr (fun k (hk:wr.heap.size≤k∧k<w7.heap.size)=>fun e=>by
   rcases e with e | e
   ·exact oS k hk.1 e
   ·omega) hq.bound
  exact RSt.mono (fun k hk=>⟨by omega,by omega,by omega,bl k hk.2 (oS k hk.1)⟩) h1
 ·have h1:=LsU.same fr (fun k (hk:B≤k∧k<wr.heap.size∧k≠b2∧(Value.slice pv nv cv).ownBlock≠some k)=>fun e=>by
   rcases e with e | e
   ·exact hk.2.2.2 e
   ·exact hk.2.2.1 e) (hLS.kept iG)
  exact LsU.mono (fun k hk=>⟨hk.1,by omega,hk.2.2.1,bl k (by omega) hk.2.2.2⟩) h1
theorem ak.takeS {s c:Nat} {T:TypeId} {w:World} {B:Nat} {p:Option Addr} {l1:List (List Value)}:∀(l2:List (List Value)) (n:Nat),ak s T w B (.slice p n c) (l1++l2)→ak s T w B (.slice p l1.length c) l1:=by
 intro l2
 obtain⟨m,hm⟩:∃m,l2.length=m:=⟨_,rfl⟩
 induction m generalizing l2 with
 | zero=>
   intro n h
   have:=List.eq_nil_of_length_eq_zero hm
   subst this
   rw [List.append_nil] at h
   obtain⟨p',c',e,-⟩:=h.is
   injection e with e1 e2 e3
   rw [←e2];exact h
 | succ m ih=>
   intro n h
   rcases ju l2 with rfl | ⟨l3,x,rfl⟩
   ·simp at hm
   rw [←List.append_assoc] at h
   exact ih l3 (by simpa using hm) _ h.popS.2.1
def kB (B:Nat) (w:World) (v:Value) (o:List Sx) (rows:List (List Value)):Prop:=
 ak 8 30 w B v rows∧LsS (fun k=>B≤k∧k<w.heap.size∧v.ownBlock≠some k) w o rows∧B≤w.heap.size
theorem kB.kept {B:Nat} {w w':World} {v:Value} {o:List Sx} {rows:List (List Value)} (h:kB B w v o rows) (hg:w.grownBy w' none):kB B w' v o rows:=
 ⟨h.1.kept hg,LsS.mono (fun k hk=>⟨hk.1,zn hk.2.1 hg.size,hk.2.2⟩) (h.2.1.kept hg),Nat.le_trans h.2.2 hg.size⟩
theorem SAt.eight {F:Nat→Prop} {w:World} {x:Sx} {q:List Value} (h:SAt F w x q):(∃a0 a1 a2 a3 a4 a5 a6 a7,q = [a0,a1,a2,a3,a4,a5,a6,a7])∧∀u∈q,u.oneCell'=true:=by
 cases x with
 | mk op nm md nu ys ks ps=>
   simp only [SAt] at h
   obtain⟨s,pw,nw,cw,pk,ck,rows,rfl,-⟩:=h
   refine⟨⟨_,_,_,_,_,_,_,_,rfl⟩,fun u hu=>?_⟩
   simp only [List.mem_cons,List.not_mem_nil,or_false] at hu
   rcases hu with rfl | rfl | rfl | rfl | rfl | rfl | rfl | rfl<;>rfl
theorem LsS.split {F:Nat→Prop} {w:World}:∀ {l1 l2:List Sx} {r:List (List Value)},LsS F w (l1++l2) r→∃r1 r2,r=r1++r2∧LsS F w l1 r1∧LsS F w l2 r2
 | [],l2,r,h=>⟨[],r,rfl,LsS.nil,h⟩
 | x::l1,l2,r,h=>by
   simp only [List.cons_append,LsS] at h
   obtain⟨q,r',rfl,h1,h2⟩:=h
   obtain⟨r1,r2,rfl,h3,h4⟩:=LsS.split h2
   exact⟨q::r1,r2,rfl,by simp only [LsS];exact⟨q,r1,rfl,h1,h3⟩,h4⟩
theorem P3 {B:Nat} {w:World} {v:Value} {o:List Sx} {rows:List (List Value)} {op:Int} {nm md:List UInt8} {nu:Int} {ys:Bool} {s:Bool} {pw pk:Option Addr} {nw cw nk ck B2:Nat} {F:Nat→Prop}
  (hi:Zd.IsInt w (.agg #[.bool s,.slice pw nw cw]) nu) (YV:0<nw→∃a,pw=some a∧F a.block) (hO:ak 8 30 w B2 (.slice pk nk ck) rows) (i7:LsS F w o rows) (hF:∀k,B2≤k→k<w.heap.size→F k):
  SAt F w (.mk op nm md nu ys o 0) [.int .i64 op,aw nm,aw md,.bool s,.slice pw nw cw,.bool ys,.slice pk nk ck,.int .i64 0]:=by
 obtain⟨hn,pz,lB⟩:=ak.rowsU hO
 have nA:=i7.len
 simp only [SAt]
 refine⟨s,pw,nw,cw,pk,ck,rows,by rw [hn,nA],hi,YV,pz,i7,fun h0=>?_⟩
 have bl:rows≠[]:=fun e=>by rw [e] at nA;exact h0 (List.eq_nil_of_length_eq_zero nA.symm)
 obtain⟨a,ha,h1,h2⟩:=lB bl
 rcases hO.1.2 with ⟨e,-⟩ | ⟨g,cap,fp,e,hb,hg,-⟩
 ·injection e with e1;rw [ha] at e1;cases e1
 ·injection e with e1
  rw [ha] at e1
  injection e1 with e1
  subst e1
  exact⟨_,ha,hF _ h1 h2,_,_,hg⟩
theorem MQ {w:World} {B ga n c nd:Nat} {r1 r2:List (List Value)} (h:ak 8 30 w B (.slice (some ⟨ga,0,none⟩) n c) (r1++r2)) (hd:r1.length=nd):GAt 8 w (some ⟨ga,nd*8,none⟩) r2:=by
 have dG:ga<w.heap.size:=(h.at ga rfl).2
 refine .inr ⟨ga,nd*8,rfl,dG,fun j q hj i v hi=>?_⟩
 have:=h.cellS (j:=nd+j) (i:=i) (q:=q) (v:=v) (by rw [List.getElem?_append_right (by omega),hd,show nd+j - nd=j by omega];exact hj) hi
 rwa [Nat.add_mul] at this
theorem kB.push {B n n9 c g' bH H:Nat} {w w':World} {p:Option Addr} {o1 o2:List Sx} {r1 r2:List (List Value)} {x:Sx} {q:List Value} (h:kB B w (.slice p n c) (o1++o2) (r1++r2)) (hr:r1.length=o1.length)
  (hx:SAt (fun k=>B≤k∧k<w.heap.size∧(Value.slice p n c).ownBlock≠some k) w x q) (hO:ak 8 30 w' B (.slice (some ⟨g',0,none⟩) n9 bH) (r1++[q])) (hg:w.grownBy w' (Value.slice p r1.length c).ownBlock) (hH:(Value.slice p r1.length c).ownBlock=some g'∨g'=H) (hHw:w.heap.size≤H):
  kB B w' (.slice (some ⟨g',0,none⟩) n9 bH) (o1++[x]) (r1++[q]):=by
 have ho:(Value.slice p r1.length c).ownBlock=(Value.slice p n c).ownBlock:=by cases p<;>rfl
 rw [ho] at hg hH
 have hf:Fr2 (fun k=>(Value.slice p n c).ownBlock=some k) w w':=Fr2.of hg (fun k e=>e)
 have db:=hg.size
 have hk:∀k,(B≤k∧k<w.heap.size∧(Value.slice p n c).ownBlock≠some k)→B≤k∧k<w'.heap.size∧(Value.slice (some ⟨g',0,none⟩) n9 bH).ownBlock≠some k:=fun k hk=>⟨hk.1,zn hk.2.1 db,fun e=>by
  have e:g'=k:=Option.some.inj (show some g'=some k from e)
  rcases hH with h2 | h2
  ·exact hk.2.2 (by rw [h2,e])
  ·have:=hk.2.1;omega⟩
 refine⟨hO,?_,Nat.le_trans h.2.2 db⟩
 obtain⟨a1,a2,e,h1,h2⟩:=LsS.split h.2.1
 have hl:a1.length=r1.length:=by rw [h1.len,hr]
 have ha:a1=r1:=(List.append_inj e hl.symm).1.symm
 subst ha
 exact LsS.snoc (SAt.mono hk (SAt.same hf (fun k hk e=>hk.2.2 e) hx)) (LsS.mono hk (LsS.same hf (fun k hk e=>hk.2.2 e) h1))
theorem yG {x:Sx} {least:Nat} {R:List UInt8} (h:∀R,NW R→lC (tkB x) R) (hR:NW R):lC (wB x least) R:=by
 unfold wB gI
 split
 ·refine⟨Qi,fK (h _ ?_) ⟨Po,trivial⟩⟩
  exact il (by decide)
 ·exact h R hR
theorem gX {t R:List UInt8} {b:Bool} (h:(aJ t).1=2∧(aJ t).2=t.length∧bg 2 t=0) (hR:NW R):qf ⟨b,2,t⟩ R:=FI (k:=2) h.1 (.inr rfl) h.2.1 h.2.2 hR
theorem mL {t R:List UInt8} {b:Bool} (h:di t=true) (hR:NW R):qf ⟨b,1,t⟩ R:=by
 unfold di at h
 have h:=of_decide_eq_true h
 exact FI (k:=1) h.1 (.inl rfl) h.2.1 h.2.2 hR
theorem pg {a:UInt8} {R:List UInt8} {b:Bool} (ha:a=40∨a=41∨a=44∨a=46∨a=58∨a=59∨a=123∨a=125):qf ⟨b,4,[a]⟩ R:=by
 rcases ha with rfl | rfl | rfl | rfl | rfl | rfl | rfl | rfl
 all_goals exact l4 (by decide) (by decide) (by decide) (by decide) (by intro g hg;simp only [mr,List.mem_cons,List.not_mem_nil,or_false] at hg;rcases hg with rfl | rfl | rfl | rfl | rfl | rfl<;>simp [List.isPrefixOf]) (by simp)
theorem ok_eq {R:List UInt8} {b:Bool}:qf ⟨b,4,[61]⟩ (32::R):=SN (op:=12) (by decide) (by decide)
theorem tB {lev:Nat} {A:List Tk} {R:List UInt8} (h:HdB lev A):NW (txK (ldK A)++R):=by
 rw [dj h.1]
 exact il (by decide)
theorem iU {k:Nat} {t:List UInt8} {A:List Tk} {R:List UInt8}:NW (txK (⟨true,k,t⟩::A)++R):=by
 rw [bS]
 exact il (by decide)
theorem BR {f:Bool}:∀ {ks:List Sx} {R:List UInt8},(∀a,a∈ks→Fmx f a)→(∀a,a∈ks→∀R,NW R→lC (tkB a) R)→NW R→lC (cQ (ks.map tkB)) R
 | [],R,_,_,_=>trivial
 | [a],R,_,h,hR=>h a (by simp) R hR
 | a::b::l,R,hf,h,hR=>by
   have ih:=BR (ks:=b::l) (fun c hc=>hf c (List.mem_cons_of_mem _ hc)) (fun c hc=>h c (List.mem_cons_of_mem _ hc)) hR
   refine fK (h a (by simp) _ ?_) ⟨pg (by simp),jr ih⟩
   rw [bS];exact il (by decide)
theorem aaM {f:Bool} {x:Sx} (h:Fmx f x):∀R,NW R→lC (tkB x) R:=by
 induction h with
 | lit nu ps h1 h2=>
   intro R hR
   have e:tkB (.mk 1 [] [] nu false [] ps) = [⟨false,3,Zd.txtL nu⟩]:=by simp [tkB,dJ]
   rw [e];exact⟨VM (yW h1 h2) hR,trivial⟩
 | tru ys ps=>
   intro R hR
   have e:tkB (.mk 2 [] [] 0 ys [] ps) = [⟨false,2,if ys then [116,114,117,101] else [102,97,108,115,101]⟩]:=by simp [tkB,dJ]
   rw [e]
   cases ys
   ·exact⟨gX (by decide +kernel) hR,trivial⟩
   ·exact⟨gX (by decide +kernel) hR,trivial⟩
 | var nm ps h=>
   intro R hR
   have e:tkB (.mk 3 nm [] 0 false [] ps) = [⟨false,1,nm⟩]:=by simp [tkB,dJ]
   rw [e]
   exact⟨mL h hR,trivial⟩
 | res ps h=>
   intro R hR
   have e:tkB (.mk 4 [] [] 0 false [] ps) = [⟨false,2,[114,101,115]⟩]:=by simp [tkB,dJ]
   rw [e]
   exact⟨gX (by decide +kernel) hR,trivial⟩
 | neg a ps h ih=>
   intro R hR
   rw [uE]
   exact⟨Kh (MO (xH h 9).1),yG ih hR⟩
 | not a ps h ih=>
   intro R hR
   rw [uq]
   exact⟨gX (by decide +kernel) (tB (xH h 4)),jr (yG ih hR)⟩
 | bin op a b ps h1 h2 ha hb iha ihb=>
   intro R hR
   rw [nM h1 h2]
   refine fK (yG iha iU) ⟨?_,jr (yG ihb hR)⟩
   rw [dj (xH hb _).1];exact SN h1 h2
 | ite a b c ps hf ha hb hc ia ib ic=>
   intro R hR
   rw [uJ]
   refine⟨gX (by decide +kernel) ?_,fK (jr (ia _ iU)) ⟨gX (by decide +kernel) ?_,fK (jr (ib _ iU)) ⟨gX (by decide +kernel) (tB (dw hc)),jr (ic R hR)⟩⟩⟩
   ·rw [dP,List.append_assoc];exact tB (dw ha)
   ·rw [dP,List.append_assoc];exact tB (dw hb)
 | let_ nm a b ps hf hn ha hb ia ib=>
   intro R hR
   rw [uT]
   refine⟨gX (by decide +kernel) iU,mL hn iU,?_,fK (jr (ia _ iU)) ⟨gX (by decide +kernel) (tB (dw hb)),jr (ib R hR)⟩⟩
   rw [dP,List.append_assoc,dj (dw ha).1];exact ok_eq
 | asr a b ps hf ha hb ia ib=>
   intro R hR
   rw [vf]
   refine⟨gX (by decide +kernel) ?_,fK (jr (ia _ iU)) ⟨gX (by decide +kernel) (tB (dw hb)),jr (ib R hR)⟩⟩
   rw [dP,List.append_assoc];exact tB (dw ha)
 | call nm md ks ps hf hn hm hk hks ih=>
   intro R hR
   rw [oX]
   have Ze:lC (cQ (ks.map tkB)++[⟨false,4,[41]⟩]) R:=fK (BR hks ih (by rw [bS];exact il (by decide))) ⟨pg (by simp),trivial⟩
   refine fK ?_ Ze
   unfold cI
   rcases hm with rfl | hm
   ·exact⟨mL hn (by rw [bS];exact il (by decide)),pg (by simp),trivial⟩
   ·rw [if_neg (mf hm)]
    show lC (⟨false,1,md⟩::⟨false,4,[46]⟩::⟨false,1,nm⟩::[⟨false,4,[40]⟩]) _
    exact⟨mL hm (by rw [bS];exact il (by decide)),pg (by simp),mL hn (by rw [bS];exact il (by decide)),pg (by simp),trivial⟩
theorem qt {S F:Nat→Prop} {s:Nat} {w w':World} {p:Option Addr} {rows:List (List Value)} {α : Type} {l:List α} (hr:rows.length=l.length) (h:GAt s w p rows) (hF:l≠[]→∃a,p=some a∧F a.block) (hg:Fr2 S w w') (hS:∀k,F k→¬S k):GAt s w' p rows:=
 h.keptS hg (fun h0 a ha=>by
  obtain⟨b,hb,hFb⟩:=hF (fun e=>h0 (by rw [e] at hr;exact List.eq_nil_of_length_eq_zero hr))
  rw [ha] at hb;cases hb;exact hS _ hFb)
theorem BH {F:Nat→Prop} {w:World}:∀ {l:List Fx} {r:List (List Value)},fP F w l r→fP (fun k=>F k∧k<w.heap.size) w l r
 | [],r,h=>by simp only [fP] at h ⊢;exact h
 | x::l,r,h=>by
   simp only [fP] at h ⊢
   obtain⟨q,r',h1,h2,h3⟩:=h
   exact⟨q,r',h1,PAt.bound h2,BH h3⟩
theorem DAt.same {F S:Nat→Prop} {w w':World} {d:Dx} {q:List Value} (hg:Fr2 S w w') (hS:∀k,F k→¬S k) (h:DAt F w d q):DAt F w' d q:=by
 obtain⟨pp,np,cp,iL,pc,nc,cc,qb,h1,h2,h3,h4,h5,h6,h7⟩:=h
 exact⟨pp,np,cp,iL,pc,nc,cc,qb,h1,PAt.same hg hS h2,EAt.same hg hS h3,h4,qt (pT h6) h5 h7 hg hS,oY hg hS h6,h7⟩
theorem DAt.mono {F F':Nat→Prop} {w:World} {d:Dx} {q:List Value} (hF:∀k,F k→F' k) (h:DAt F w d q):DAt F' w d q:=by
 obtain⟨pp,np,cp,iL,pc,nc,cc,qb,h1,h2,h3,h4,h5,h6,h7⟩:=h
 exact⟨pp,np,cp,iL,pc,nc,cc,qb,h1,PAt.mono hF h2,EAt.mono hF h3,h4,h5,oL hF h6,fun h0=>by obtain⟨a,ha,h8⟩:=h7 h0;exact⟨a,ha,hF _ h8⟩⟩
theorem DAt.bound {F:Nat→Prop} {w:World} {d:Dx} {q:List Value} (h:DAt F w d q):DAt (fun k=>F k∧k<w.heap.size) w d q:=by
 obtain⟨pp,np,cp,iL,pc,nc,cc,qb,h1,h2,h3,h4,h5,h6,h7⟩:=h
 refine⟨pp,np,cp,iL,pc,nc,cc,qb,h1,PAt.bound h2,EAt.bound h3,h4,h5,BH h6,fun h0=>?_⟩
 obtain⟨a,ha,h8⟩:=h7 h0
 have hr:=pT h6
 exact⟨a,ha,h8,GAt.blk h5 (fun e=>by rw [e] at hr;exact h0 (List.eq_nil_of_length_eq_zero hr.symm)) a ha⟩
theorem DAt.fift {F:Nat→Prop} {w:World} {d:Dx} {q:List Value} (h:DAt F w d q):q.length=15∧(∀u∈q,u.oneCell'=true)∧∃a0 a1 a2 a3 a4 a5 a6 a7 a8 a9 a10 a11 a12 a13 a14,q = [a0,a1,a2,a3,a4,a5,a6,a7,a8,a9,a10,a11,a12,a13,a14]:=by
 obtain⟨pp,np,cp,iL,pc,nc,cc,qb,rfl,h2,h3,-⟩:=h
 obtain⟨fw,dC⟩:=h3.one
 obtain⟨e0,e1,e2,e3,e4,e5,e6,e7,rfl⟩:=h3.eight
 refine⟨rfl,fun u hu=>?_,_,_,_,_,_,_,_,_,_,_,_,_,_,_,_,rfl⟩
 rcases List.mem_append.1 hu with hu | hu
 ·rcases List.mem_append.1 hu with hu | hu
  ·simp at hu;rcases hu with rfl | rfl | rfl | rfl | rfl<;>rfl
  ·exact dC u hu
 ·simp at hu;rcases hu with rfl | rfl<;>rfl
def eW (F:Nat→Prop) (w:World):List Dx→List (List Value)→Prop
 | [],r=>r = []
 | x::l,r=>∃q r',r=q::r'∧DAt F w x q∧eW F w l r'
theorem uY {F:Nat→Prop} {w:World}:∀ {l:List Dx} {r:List (List Value)},eW F w l r→r.length=l.length
 | [],r,h=>by simp only [eW] at h;rw [h];rfl
 | x::l,r,h=>by
   simp only [eW] at h
   obtain⟨q,r',rfl,-,h2⟩:=h
   rw [List.length_cons,uY h2];rfl
theorem E6 {F:Nat→Prop} {w:World} {x:Dx} {q:List Value} (hx:DAt F w x q):∀ {l:List Dx} {r:List (List Value)},eW F w l r→eW F w (l++[x]) (r++[q])
 | [],r,h=>by simp only [eW] at h;subst h;simp only [List.nil_append,eW];exact⟨q,[],rfl,hx,rfl⟩
 | y::l,r,h=>by
   simp only [eW] at h
   obtain⟨q',r',rfl,h1,h2⟩:=h
   simp only [List.cons_append,eW]
   exact⟨q',_,rfl,h1,E6 hx h2⟩
theorem sE {F S:Nat→Prop} {w w':World} (hg:Fr2 S w w') (hS:∀k,F k→¬S k):∀ {l:List Dx} {r:List (List Value)},eW F w l r→eW F w' l r
 | [],r,h=>by simp only [eW] at h ⊢;exact h
 | x::l,r,h=>by
   simp only [eW] at h ⊢
   obtain⟨q,r',h1,h2,h3⟩:=h
   exact⟨q,r',h1,DAt.same hg hS h2,sE hg hS h3⟩
theorem oI {F F':Nat→Prop} {w:World} (hF:∀k,F k→F' k):∀ {l:List Dx} {r:List (List Value)},eW F w l r→eW F' w l r
 | [],r,h=>by simp only [eW] at h ⊢;exact h
 | x::l,r,h=>by
   simp only [eW] at h ⊢
   obtain⟨q,r',h1,h2,h3⟩:=h
   exact⟨q,r',h1,DAt.mono hF h2,oI hF h3⟩
theorem RG {F:Nat→Prop} {w w':World} {l:List Dx} {r:List (List Value)} (h:eW F w l r) (hg:w.grownBy w' none):eW F w' l r:=sE (S:=fun _=>False) (Fr2.none hg) (fun _ _ h=>h) h
theorem KZ {F:Nat→Prop} {w:World}:∀ {l:List Dx} {r:List (List Value)} {j:Nat} {x:Dx},eW F w l r→l[j]? = some x→∃q,r[j]? = some q∧DAt F w x q
 | [],r,j,x,h,hj=>by simp at hj
 | y::l,r,j,x,h,hj=>by
   simp only [eW] at h
   obtain⟨q,r',rfl,h1,h2⟩:=h
   match j,hj with
   | 0,hj=>simp at hj;subst hj;exact⟨q,rfl,h1⟩
   | j+1,hj=>
     obtain⟨q2,h3,h4⟩:=KZ h2 (show l[j]? = some x by simpa using hj)
     exact⟨q2,by simpa using h3,h4⟩
def sT (x:List UInt8×Nat):List Value:=[aw x.1,.int .i64 (x.2:Int)]
def pI (F:Nat→Prop) (w:World) (P:Px) (q:List Value):Prop:=∃pi ci pd cd Cb,q = [.slice pi P.imps.length ci,.slice pd P.defs.length cd]∧GAt 2 w pi (P.imps.map sT)∧GAt 15 w pd Cb∧eW F w P.defs Cb∧(P.imps≠[]→∃a,pi=some a∧F a.block)∧(P.defs≠[]→∃a,pd=some a∧F a.block)
theorem pI.same {F S:Nat→Prop} {w w':World} {P:Px} {q:List Value} (hg:Fr2 S w w') (hS:∀k,F k→¬S k) (h:pI F w P q):pI F w' P q:=by
 obtain⟨pi,ci,pd,cd,Cb,h1,h2,h3,h4,h5,h6⟩:=h
 exact⟨pi,ci,pd,cd,Cb,h1,qt (List.length_map _) h2 h5 hg hS,qt (uY h4) h3 h6 hg hS,sE hg hS h4,h5,h6⟩
theorem pI.mono {F F':Nat→Prop} {w:World} {P:Px} {q:List Value} (hF:∀k,F k→F' k) (h:pI F w P q):pI F' w P q:=by
 obtain⟨pi,ci,pd,cd,Cb,h1,h2,h3,h4,h5,h6⟩:=h
 exact⟨pi,ci,pd,cd,Cb,h1,h2,h3,oI hF h4,fun h0=>by obtain⟨a,ha,h8⟩:=h5 h0;exact⟨a,ha,hF _ h8⟩,fun h0=>by obtain⟨a,ha,h8⟩:=h6 h0;exact⟨a,ha,hF _ h8⟩⟩
def yX (x:Px) (w:World) (e:Ending) (w':World):Prop:=w.grownBy w' none∧∃q,e=.returned (.agg q.toArray)∧pI (fun k=>w.heap.size≤k) w' x q
def Wr3 (b:Nat) (vi vd:Value) (k:Nat):Prop:=k=b∨vi.ownBlock=some k∨vd.ownBlock=some k
theorem Fv {X X':Nat→Prop} {B:Nat} {w w':World} {l:List Dx} {r:List (List Value)} (hf:Fr2 X w w') (hx:∀k,k<w.heap.size→¬X k→¬X' k) (h:eW (fun k=>B≤k∧k<w.heap.size∧¬X k) w l r):eW (fun k=>B≤k∧k<w'.heap.size∧¬X' k) w' l r:=
 oI (fun k hk=>⟨hk.1,zn hk.2.1 hf.size,hx k hk.2.1 hk.2.2⟩) (sE hf (fun k hk=>hk.2.2) h)
theorem Nj {wr w7 wa w9:World} {B b j base ni ci nd cd g9 n9 cap9:Nat} {pi pd:Option Addr} {irows rows:List (List Value)} {q:List Value} {ks:List Dx} {x:Dx} {u:Value} (hB:B≤wr.heap.size) (hb:b<base) (hbr:b<wr.heap.size)
  (hOi:ak 2 118 wr base (.slice pi ni ci) irows) (hOd:ak 15 55 wr base (.slice pd nd cd) rows)
  (hLS:eW (fun k=>B≤k∧k<wr.heap.size∧¬Wr3 b (.slice pi ni ci) (.slice pd nd cd) k) wr ks rows) (iG:wr.grownBy w7 none) (hq:DAt (fun k=>wr.heap.size≤k) w7 x q) (dG:w7.grownBy wa none) (sd:wa.heap.size=w7.heap.size+1)
  (eu:wa.grownBy w9 (Value.slice pd nd cd).ownBlock) (ef:(Value.slice pd nd cd).ownBlock=some g9∨g9=w7.heap.size+1):
  eW (fun k=>B≤k∧k<(w9.setCell ⟨b,j,none⟩ u).heap.size∧¬Wr3 b (.slice pi ni ci) (.slice (some ⟨g9,0,none⟩) n9 cap9) k) (w9.setCell ⟨b,j,none⟩ u) (ks++[x]) (rows++[q]):=by
 have hai:=ak.at hOi
 have had:=ak.at hOd
 have s7:=iG.size
 have s9:=eu.size
 have fr:Fr2 (Wr3 b (.slice pi ni ci) (.slice pd nd cd)) w7 (w9.setCell ⟨b,j,none⟩ u):=
  (Fr2.none dG).trans ((Fr2.of eu (fun k e=>.inr (.inr e))).trans (Fr2.setCell (Fr2.refl _ _) (.inl rfl) u))
 have oS:∀k,k<w7.heap.size→¬Wr3 b (.slice pi ni ci) (.slice pd nd cd) k→¬Wr3 b (.slice pi ni ci) (.slice (some ⟨g9,0,none⟩) n9 cap9) k:=fun k hk h e=>by
  rcases e with e | e | e
  ·exact h (.inl e)
  ·exact h (.inr (.inl e))
  ·have e:g9=k:=Option.some.inj (show some g9=some k from e)
   rcases ef with h9 | h9
   ·exact h (.inr (.inr (by rw [h9,e])))
   ·omega
 have Gn:∀k,wr.heap.size≤k→¬Wr3 b (.slice pi ni ci) (.slice pd nd cd) k:=fun k hk e=>by
  rcases e with e | e | e
  ·omega
  ·have:=hai _ e;omega
  ·have:=had _ e;omega
 refine E6 ?_ ?_
 ·exact DAt.mono (fun k hk=>⟨Nat.le_trans hB hk.1,zn hk.2 fr.size,oS k hk.2 (Gn k hk.1)⟩) (DAt.same fr (fun k hk=>Gn k hk.1) hq.bound)
 ·refine Fv (X:=Wr3 b (.slice pi ni ci) (.slice pd nd cd)) ((Fr2.none iG).trans fr) (fun k hk=>oS k (zn hk s7)) hLS
theorem Nh {wr w7 wa w9:World} {B b j ni ci nd cd g9 n9 cap9:Nat} {pi pd:Option Addr} {rows:List (List Value)} {ks:List Dx} {u:Value}
  (hLS:eW (fun k=>B≤k∧k<wr.heap.size∧¬Wr3 b (.slice pi ni ci) (.slice pd nd cd) k) wr ks rows) (iG:wr.grownBy w7 none) (dG:w7.grownBy wa none) (sd:w7.heap.size≤wa.heap.size)
  (eu:wa.grownBy w9 (Value.slice pi ni ci).ownBlock) (ef:(Value.slice pi ni ci).ownBlock=some g9∨w7.heap.size≤g9):
  eW (fun k=>B≤k∧k<(w9.setCell ⟨b,j,none⟩ u).heap.size∧¬Wr3 b (.slice (some ⟨g9,0,none⟩) n9 cap9) (.slice pd nd cd) k) (w9.setCell ⟨b,j,none⟩ u) ks rows:=by
 have s7:=iG.size
 have fr:Fr2 (Wr3 b (.slice pi ni ci) (.slice pd nd cd)) w7 (w9.setCell ⟨b,j,none⟩ u):=
  (Fr2.none dG).trans ((Fr2.of eu (fun k e=>.inr (.inl e))).trans (Fr2.setCell (Fr2.refl _ _) (.inl rfl) u))
 refine Fv (X:=Wr3 b (.slice pi ni ci) (.slice pd nd cd)) ((Fr2.none iG).trans fr) (fun k hk h e=>?_) hLS
 rcases e with e | e | e
 ·exact h (.inl e)
 ·have e:g9=k:=Option.some.inj (show some g9=some k from e)
  rcases ef with h9 | h9
  ·exact h (.inr (.inl (by rw [h9,e])))
  ·omega
 ·exact h (.inr (.inr e))
theorem ER {a b:Value} {g n c H:Nat} (h:Sep a b) (hb:∀k,b.ownBlock=some k→k<H) (hg:a.ownBlock=some g∨g=H):Sep (.slice (some ⟨g,0,none⟩) n c) b:=fun k h1 h2=>by
 have e:g=k:=Option.some.inj (show some g=some k from h1)
 rcases hg with h9 | h9
 ·exact h k (by rw [h9,e]) h2
 ·have:=hb k h2;omega
theorem Wi:(Tryz.prog.info? 55).map (fun i=>(i.zero,i.size,i.bytes))=some (some (.agg #[.bool false,.string ⟨#[]⟩,.slice none 0 0,.int .i64 0,.slice none 0 0,.int .i64 0,.string ⟨#[]⟩,.string ⟨#[]⟩,.bool false,.slice none 0 0,.bool false,.slice none 0 0,.int .i64 0,.int .i64 0,.int .i64 0]),15,208):=by kernel_rfl
theorem VD:(Tryz.prog.info? 118).map (fun i=>(i.zero,i.size,i.bytes))=some (some (.agg #[.string ⟨#[]⟩,.int .i64 0]),2,24):=by kernel_rfl
theorem Ip (T:List Tok) {l:List Tr} {j:Nat} {t:Tr} (h:l[j]? = some t):(cO T (l.take (j+1))).imps=(cO T (l.take j)).imps++(if dx t=2 then [Pu T (xu t)] else [])∧(cO T (l.take (j+1))).defs=(cO T (l.take j)).defs++(if dx t=3 then [Dw T (xu t)] else []):=by
 unfold cO
 rw [gV h]
 simp only [List.filter_append,List.map_append]
 refine⟨?_,?_⟩
 ·congr 1
  by_cases h4:dx t=2
  ·simp [h4]
  ·simp [h4]
 ·congr 1
  by_cases h4:dx t=3
  ·simp [h4]
  ·simp [h4]
theorem MT (T:List Tok) (l:List Tr):(cO T l).imps.length≤l.length∧(cO T l).defs.length≤l.length:=by
 unfold cO
 simp only [List.length_map]
 exact⟨List.length_filter_le _ _,List.length_filter_le _ _⟩
def OkP (T:List Tok) (t:Tr):Prop:=(∀l,t=.nd 2 l→∃i n m,l = [.lf i,.lf n,.lf m])∧(∀l,t=.nd 3 l→ShD T (.nd 3 l))
theorem WM {T:List Tok} {l:List Tr} (h:JJ T l):∀t∈l,OkP T t:=by
 obtain⟨is,ds,e,rfl,h1,h2⟩:=h
 intro t ht
 simp only [List.mem_append] at ht
 rcases ht with (ht | ht) | ht
 ·have h3:=h1 t ht
  cases h3 with
  | mk i n m hn=>exact⟨fun l e=>by injection e with _ e;exact⟨i,n,m,e.symm⟩,fun l e=>by injection e with e;omega⟩
 ·have h3:=h2 t ht
  refine⟨fun l e=>?_,fun l e=>by rw [←e];exact h3⟩
  rw [e] at h3;cases h3
 ·simp at ht;subst ht
  exact⟨fun l e=>(by cases e),fun l e=>(by cases e)⟩
end Go.Proofs.YtjbgnopnehgbaaaGreatDoor
