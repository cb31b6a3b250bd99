/- Lemmas. -/
import Derived.Test.YtjbgnopnehgbaaaGreatDoorP12
import Derived.Test.YtjbgnopnehgbaaaGreatDoorP7
set_option linter.unusedVariables false
set_option linter.unusedSimpArgs false
namespace Go.Proofs.YtjbgnopnehgbaaaGreatDoor
mutual
def lvT:Tr→List Nat
 | .lf i=>[i]
 | .nd _ l=>eo l
def eo:List Tr→List Nat
 | []=>[]
 | t::l=>lvT t++eo l
end
theorem rb (a b:List Tr):eo (a++b)=eo a++eo b:=by
 induction a with
 | nil=>simp [eo]
 | cons t a ih=>simp [eo,ih]
theorem I9 (k:Nat) (l:List Tr):eo [.nd k l]=eo l:=by simp [eo,lvT]
def Run (s:St) (r:RT):Prop:=r.2.e=0→s.e=0∧s.i≤r.2.i∧eo r.1=List.range' s.i (r.2.i - s.i)
theorem Run.nil (s:St):Run s ([],s):=fun h=>⟨h,Nat.le_refl _,by simp [eo]⟩
theorem Run.bad {s t:St} {l:List Tr} (h:t.e≠0):Run s (l,t):=fun e=>absurd e h
theorem Run.app {s:St} {a b:RT} (h1:Run s a) (h2:Run a.2 b):Run s (a.1++b.1,b.2):=fun e=>by
 obtain⟨e2,l2,r2⟩:=h2 e
 obtain⟨e1,l1,r1⟩:=h1 e2
 refine⟨e1,Nat.le_trans l1 l2,?_⟩
 show eo (a.1++b.1)=_
 rw [rb,r1,r2]
 have h3:a.2.i=s.i+1*(a.2.i - s.i):=by omega
 have h4:b.2.i - s.i=(a.2.i - s.i)+(b.2.i - a.2.i):=by omega
 show _=List.range' s.i (b.2.i - s.i)
 rw [h4,←List.range'_append,←h3]
theorem Run.node {s:St} {l:List Tr} {t:St} (k:Nat) (h:Run s (l,t)):Run s ([.nd k l],t):=fun e=>by
 obtain⟨h1,h2,h3⟩:=h e
 exact⟨h1,h2,by show eo [.nd k l]=_;rw [I9];exact h3⟩
theorem Run.same {s t:St} {r:RT} (h:Run t r) (he:t.e=0→s.e=0) (hi:t.i=s.i):Run s r:=fun e=>by
 obtain⟨h1,h2,h3⟩:=h e
 exact⟨he h1,by omega,by rw [←hi];exact h3⟩
section
variable (T:List Tok)
theorem bK {s:St} (h:(an T s).kind≠5):Run s (ac T s):=fun e=>by
 have h1:=(qh h).2
 have h2:(ac T s).2.i=s.i+1:=h1
 have h3:s.e=0:=by
  have:(ac T s).2.e=s.e:=by show(aI T s).2.e=s.e;unfold aI;rw [if_neg h]
  omega
 refine⟨h3,by omega,?_⟩
 rw [h2]
 show eo [.lf s.i]=_
 simp [eo,lvT]
theorem mj {n:Nat} (hn:n≠0) (s t:St) (l:List Tr):Run s (l,aB T n t):=Run.bad (cC T hn t)
theorem cS (w:List UInt8) (s:St):Run s (aj T w s):=by
 unfold aj
 split
 ·rename_i h;exact bK T (af h).1
 ·exact mj T (by decide) s s []
theorem ms {k:Nat} (hk:k≠5) (s:St):Run s (aA T k s):=by
 unfold aA
 split
 ·rename_i h;exact bK T (by rw [h.2];exact hk)
 ·exact mj T (by decide) s s []
theorem js {D n:Nat} {s:St} {r:RT} (h:Run (aO T D n s) r):Run s r:=
 h.same (fun e=>by
  unfold aO at e
  split at e
  ·exact absurd e (cC T (by decide) s)
  ·exact e) (VW T D n s)
theorem oE {c:St→Bool} {sub:St→RT} (hc:∀s,c s=true→(an T s).kind≠5) (hs:∀s,Run s (sub s)) {s:St}:∀f r,Run s r→Run s (rwT T c sub f r)
 | 0,r,h=>h
 | f+1,r,h=>by
   unfold rwT
   split
   ·rename_i iA
    refine oE hc hs f _ (Run.node 10 ?_)
    exact(h.app (bK T (hc _ iA))).app (hs _)
   ·exact h
theorem qB {sub:St→RT} (hs:∀s,Run s (sub s)) {s:St}:∀f k r,Run s r→Run s (bk T sub f k r)
 | 0,k,r,h=>h
 | f+1,k,r,h=>by
   unfold bk
   split
   ·rename_i iA
    refine qB hs f _ _ ?_
    refine(h.app (bK T (af iA).1)).app ?_
    refine(hs _).same ?_ ?_
    ·intro e
     split at e
     ·exact absurd e (cC T (by decide) _)
     ·exact e
    ·split
     ·exact jZ _ _ _
     ·rfl
   ·exact h
structure NxR (nt:NxT):Prop where
 expr:∀s,Run s (nt.expr s)
 formula:∀s,Run s (nt.formula s)
 nots:∀s,Run s (nt.nots s)
 factor:∀s,Run s (nt.factor s)
end
section
variable (T:List Tok) (D n:Nat) {nt:NxT} (h:NxR nt)
include h
theorem Ko (s:St):Run s (jn T nt s):=qB T h.expr _ _ _ (h.expr s)
omit h in
theorem H9 {s:St} {a:RT} (ha:Run s a):Run s (bO T a):=by
 unfold bO
 split
 ·rename_i hc;exact(ha.app (bK T (af hc).1)).app (ms T (by decide) _)
 ·exact ha
omit h in
theorem GT {s:St} {a:RT} (ha:Run s a):Run s (bN T a):=ha.app (cS T _ _)
theorem IZ {s:St} {a:RT} (ha:Run s a):Run s (bG T nt a):=by
 unfold bG
 split
 ·exact ha
 ·exact ha.app (Ko T h _)
omit h in
theorem Is {s:St} {a:RT} (ha:Run s a):Run s (gF T a):=Run.node 13 (ha.app (cS T _ _))
theorem Lt {s:St} (hk:(an T s).kind≠5):Run s (dq T nt s):=by
 unfold dq
 split
 ·exact Run.node 14 (bK T hk)
 ·exact Is T (IZ T h (GT T (H9 T (bK T hk))))
theorem NN (s:St):Run s (bC T nt s):=by
 unfold bC
 split
 ·rename_i he;exact Run.bad he
 split
 ·rename_i hk;exact Run.node 15 (bK T (by rw [hk];decide))
 split
 ·rename_i hk;exact Run.node 16 (bK T (by rcases hk with hk | hk<;>exact(af hk).1))
 split
 ·rename_i hk;exact Run.node 17 (bK T (af hk.2).1)
 split
 ·rename_i hk;exact Run.node 12 (((bK T (af hk).1).app (h.expr _)).app (cS T _ _))
 split
 ·rename_i hk;exact Lt T h (by rw [hk];decide)
 ·exact mj T (by decide) s s []
omit h in
theorem Ba {sub:St→RT} (hs:∀s,Run s (sub s)) {s:St} (hk:(an T s).kind≠5):Run s (fa T D n sub s):=by
 unfold fa
 simp only []
 split
 ·rename_i he;exact Run.bad he
 ·exact Run.node 11 ((bK T hk).app (js T (hs _)))
theorem nR (s:St):Run s (aL T D n nt s):=by
 unfold aL
 split
 ·rename_i hk;exact Ba T D n h.factor (af hk).1
 ·exact NN T h s
theorem re (s:St):Run s (cJ T D n nt s):=oE T (fun _ hc=>Od hc) (nR T D n h) _ _ (nR T D n h s)
theorem yr (s:St):Run s (cX T D n nt s):=oE T (fun _ hc=>KE hc) (re T D n h) _ _ (re T D n h s)
theorem zK (s:St):Run s (dL T D n nt s):=by
 unfold dL
 simp only []
 split
 ·rename_i hk;exact Ba T D n h.nots (af hk).1
 split
 ·rename_i hk;exact Run.node 10 (((yr T D n h s).app (bK T (Nf hk))).app (yr T D n h _))
 ·exact yr T D n h s
theorem F8 (s:St):Run s (me T D n nt s):=oE T (fun _ hc=>(af hc).1) (zK T D n h) _ _ (zK T D n h s)
theorem JP (s:St):Run s (orT T D n nt s):=oE T (fun _ hc=>(af hc).1) (F8 T D n h) _ _ (F8 T D n h s)
theorem ro (s:St):Run s (ay T D n nt s):=by
 unfold ay
 simp only []
 split
 ·rename_i hk
  split
  ·rename_i he;exact Run.bad he
  ·exact Run.node 10 (((JP T D n h s).app (bK T (af hk).1)).app (js T (h.formula _)))
 ·exact JP T D n h s
theorem Qq {s:St} (hk:(an T s).kind≠5):Run s (nT T nt s):=
 Run.node 7 ((((((bK T hk).app (ms T (by decide) _)).app (cS T _ _)).app (h.expr _)).app (cS T _ _)).app (h.expr _))
theorem Vf {s:St} (hk:(an T s).kind≠5):Run s (ifT T nt s):=
 Run.node 8 ((((((bK T hk).app (h.expr _)).app (cS T _ _)).app (h.expr _)).app (cS T _ _)).app (h.expr _))
theorem Dn {s:St} (hk:(an T s).kind≠5):Run s (ep T nt s):=
 Run.node 9 ((((bK T hk).app (h.expr _)).app (cS T _ _)).app (h.expr _))
theorem Nv (s:St):Run s (cP T D n nt s):=by
 unfold cP
 simp only []
 split
 ·rename_i he;exact Run.bad he
 split
 ·rename_i hk;exact js T (Qq T h (af hk.2).1)
 split
 ·rename_i hk;exact js T (Vf T h (af hk.2).1)
 split
 ·rename_i hk;exact js T (Dn T h (af hk.2).1)
 ·exact js T (ro T D n h _)
end
theorem va (T:List Tok) (D:Nat):∀d,NxR (nxT T D d)
 | 0=>⟨fun s=>js T (Run.nil _),fun s=>Run.nil s,fun s=>Run.nil s,fun s=>Run.nil s⟩
 | d+1=>⟨Nv T D _ (va T D d),ro T D _ (va T D d),zK T D _ (va T D d),nR T D _ (va T D d)⟩
section
variable (T:List Tok) {et:St→RT} (h:∀s,Run s (et s))
include h
omit h in
theorem JK {s:St} {a:RT} (ha:Run s a):Run s (gR T a):=by
 unfold gR
 split
 ·rename_i hk;exact ha.app (Run.node 5 (bK T (by rcases hk with hk | hk<;>exact(af hk).1)))
 ·exact mj T (by decide) s _ _
theorem J1 {s:St} {a:RT} (ha:Run s a):Run s (fY T et a):=by
 unfold fY
 split
 ·rename_i hk
  refine ha.app (Run.node 6 (((bK T (af hk).1).app ?_).app ?_))
  ·exact(h _).same (fun e=>e) rfl
  ·exact(cS T _ _).same (fun e=>e) rfl
 ·exact ha
theorem wJ (s:St):Run s (bA T et s):=J1 T h (JK T (cS T _ s))
theorem Es (s:St):Run s (eF T et s):=Run.node 4 ((ms T (by decide) s).app (wJ T h _))
theorem CJ (s:St):Run s (eI T et s):=qB T (Es T h) _ _ _ (Es T h s)
omit h in
theorem L0 (s:St):Run s (bW T s):=by
 unfold bW
 split
 ·rename_i hk;exact bK T (af hk).1
 ·exact Run.nil s
omit h in
theorem Ll {s:St} {a:RT} (ha:Run s a):Run s (cK T a):=ha.app (((cS T _ _).app (ms T (by decide) _)).app (cS T _ _))
theorem LJ {s:St} {a:RT} (ha:Run s a):Run s (du T et a):=by
 unfold du
 split
 ·exact ha.app (CJ T h _)
 ·exact ha
theorem M5 {s:St} {a:RT} (ha:Run s a):Run s (eL T et a):=
 ((ha.app (((cS T _ _).app (wJ T h _)).app (cS T _ _))).app (h _)).app (cS T _ _)
theorem P4 (s:St):Run s (gO T et s):=Run.node 3 (M5 T h (LJ T h (Ll T (L0 T s))))
omit h in
theorem BF {s:St} {r:RT} (hr:Run s r) (hc:isQ T [105,109,112,111,114,116] r.2=true):Run s (eC T r):=
 hr.app (Run.node 2 (((bK T (af hc).1).app (ms T (by decide) _)).app (cS T _ _)))
omit h in
theorem tz {c:St→Bool} {step:RT→RT} {most:Nat} {s:St} (hs:∀r,c r.2=true→Run s r→Run s (step r)):∀f k r,Run s r→Run s (dr T c step most f k r).2
 | 0,k,r,hr=>hr
 | f+1,k,r,hr=>by
   unfold dr
   split
   ·rename_i hc
    split
    ·exact mj T (by decide) s _ _
    ·exact tz hs f _ _ (hs r hc hr)
   ·exact hr
omit h in
theorem EN {s:St} {r:RT} (hr:Run s r) (he:(aA T 5 r.2).2.e=0):s.e=0∧(an T r.2).kind=5∧s.i≤r.2.i∧eo (r.1++(aA T 5 r.2).1)=List.range' s.i (r.2.i+1 - s.i):=by
 unfold aA at he ⊢
 split at he
 ·rename_i hk
  obtain⟨h1,h2,h3⟩:=hr hk.1
  rw [if_pos hk]
  refine⟨h1,hk.2,h2,?_⟩
  rw [rb,h3]
  have h4:r.2.i+1 - s.i=(r.2.i - s.i)+1:=by omega
  have h5:r.2.i=s.i+1*(r.2.i - s.i):=by omega
  rw [h4,←List.range'_append,←h5]
  simp [ac,eo,lvT]
 ·exact absurd he (cC T (by decide) _)
omit h in
theorem wY (hE:tG T) {s:St} (dp:(aA T 5 s).2.i<T.length) (hk:(an T s).kind=5):s.i+1=T.length:=by
 have e:(aA T 5 s).2.i=s.i:=by
  unfold aA
  split
  ·show(aI T s).2.i=s.i
   unfold aI;rw [if_pos hk]
  ·exact jZ T 22 s
 rw [e] at dp
 have ht:T[s.i]? = some (an T s):=by unfold an;rw [List.getElem?_eq_getElem dp];rfl
 exact(hE _ _ ht).1 hk
theorem Cj (hE:tG T) {s:St} (hs:s.i=0) (dp:(aW T et s).2.i<T.length) (he:(aW T et s).2.e=0):eo (aW T et s).1=List.range T.length:=by
 have Vo:(au T ([],s)).1=false→(au T ([],s)).2.2.e≠0:=gH T _ _ _
 have hI:Run s (au T ([],s)).2:=tz T (fun r hc hr=>BF T hr hc) _ _ _ (Run.nil s)
 have L8:(cj T et (au T ([],s)).2).1=false→(cj T et (au T ([],s)).2).2.2.e≠0:=gH T _ _ _
 have hD:Run s (cj T et (au T ([],s)).2).2:=tz T (fun r hc hr=>hr.app (P4 T h _)) _ _ _ hI
 unfold aW at he dp ⊢
 split at he
 ·rename_i hc;exact absurd he (Vo hc)
 ·rename_i zT
  split at he
  ·rename_i hc;exact absurd he (L8 hc)
  ·rename_i sG
   rw [if_neg zT,if_neg sG]
   obtain⟨-,hk,-,hl⟩:=EN T hD he
   show eo (_++_)=_
   rw [hl,hs]
   rw [if_neg zT,if_neg sG] at dp
   have hi:=wY T (s:=(cj T et (au T ([],s)).2).2.2) hE dp hk
   rw [hi,Nat.sub_zero,List.range_eq_range']
theorem Ho (hE:tG T) {s:St} (hs:s.i=0) (dp:(de T et s).2.i<T.length) (he:(de T et s).2.e=0):eo (de T et s).1=List.range T.length:=by
 have hX:Run s (et (setIn true s)):=(h _).same (fun e=>e) rfl
 unfold de at he dp ⊢
 simp only [] at he dp ⊢
 obtain⟨-,hk,-,hl⟩:=EN T hX he
 rw [hl,hs,wY T hE dp hk,Nat.sub_zero,List.range_eq_range']
end
end Go.Proofs.YtjbgnopnehgbaaaGreatDoor
set_option maxHeartbeats 16000000
set_option maxRecDepth 100000
namespace Go.Proofs.YtjbgnopnehgbaaaGreatDoor
open Go.RowKit
theorem KW:(Tryz.prog.info? 140).map (fun i=>(i.zero,i.size,i.bytes))=some (some (.agg #[.string ⟨#[]⟩,.pointer none,.int .i64 0]),3,32):=by kernel_rfl
def bj (S:Nat→Prop) (B b:Nat) (w:World) (rows:List (List Value)):Prop:=∃v,w.heap[b]? = some (.cells #[v] 99 (0,0))∧ak 3 140 w B v rows∧b<B∧B≤w.heap.size∧¬S b∧(∀k,v.ownBlock=some k→¬S k)∧∀k,S k→k<w.heap.size
def dy (S:Nat→Prop) (B b:Nat) (rows:List (List Value)) (w:World) (e:Ending) (w':World):Prop:=e=.returned (.tuple #[])∧bj S B b w' rows∧Fr2 (fun k=>¬S k) w w'
theorem ZO {w:World} {b:Nat} {v u:Value} {T:TypeId} (h:w.heap[b]? = some (.cells #[v] T (0,0))):(w.setCell ⟨b,0,none⟩ u).heap[b]? = some (.cells #[u] T (0,0)):=(ab (i:=0) (u:=u) h).trans rfl
theorem bj.put {S:Nat→Prop} {B b g9 cap9 n:Nat} {w w2 w9:World} {v:Value} {rows rows':List (List Value)} (hb:w.heap[b]? = some (.cells #[v] 99 (0,0))) (kK:b<B) (hB:B≤w.heap.size) (hO:ak 3 140 w B v rows) (p8:¬S b) (pK:∀k,v.ownBlock=some k→¬S k) (mp:∀k,S k→k<w.heap.size) (h2:w.grownBy w2 none) (h9:w2.grownBy w9 v.ownBlock) (ef:v.ownBlock=some g9∨w.heap.size≤g9) (ii:ak 3 140 w9 B (.slice (some ⟨g9,0,none⟩) n cap9) rows'):
  bj S B b (w9.setCell ⟨b,0,none⟩ (.slice (some ⟨g9,0,none⟩) n cap9)) rows'∧Fr2 (fun k=>¬S k) w (w9.setCell ⟨b,0,none⟩ (.slice (some ⟨g9,0,none⟩) n cap9)):=by
 have bl:v.ownBlock≠some b:=fun e=>by have:=(hO.at b e).1;omega
 have dC:=bx h2 hb
 have kJ:w9.heap[b]? = some (.cells #[v] 99 (0,0)):=(h9.block b (hlt dC) (fun e=>bl e.symm)).trans dC
 have hf:Fr2 (fun k=>k=b) w9 (w9.setCell ⟨b,0,none⟩ (.slice (some ⟨g9,0,none⟩) n cap9)):=Fr2.setCell (S:=fun k=>k=b) (Fr2.refl _ _) rfl _
 have db:w.heap.size≤(w9.setCell ⟨b,0,none⟩ (.slice (some ⟨g9,0,none⟩) n cap9)).heap.size:=by have:=h2.size;have:=h9.size;have:=hf.size;omega
 refine⟨⟨_,ZO kJ,ii.keptF hf (fun k hk e=>by have:=(ii.at k hk).1;have e:k=b:=e;omega),kK,by omega,p8,fun k hk hS=>?_,fun k hk=>zn (mp k hk) db⟩,?_⟩
 ·have e:g9=k:=Option.some.inj (show some g9=some k from hk)
  subst e
  rcases ef with h | h
  ·exact pK _ h hS
  ·have:=mp _ hS;omega
 ·refine(Fr2.none h2).trans ((Fr2.of h9 (fun k e=>pK k e)).trans (hf.mono (fun k e=>?_)))
  have e:k=b:=e
  rw [e];exact p8
theorem kW (S:Nat→Prop) (B b:Nat) (rows:List (List Value)) (s:ByteArray) (w:World) (h:bj S B b w rows) (hl:rows.length≤1000000):
  Calls Tryz.prog 105 #[.pointer (some ⟨b,0,none⟩),.string s] w (dy S B b (rows++[[.string s,.pointer none,.int .i64 0]]) w):=by
 obtain⟨v,hb,hO,kK,hB,p8,pK,mp⟩:=h
 have c0:w.cell? ⟨b,0,none⟩=some v:=by rw [cell_of_row w b 0 _ _ (0,0) hb];rfl
 have mV:=hlt hb
 obtain⟨p,c,rfl,-⟩:=hO.is
 obtain⟨n,hn⟩:∃n,rows.length=n:=⟨_,rfl⟩
 have HN:=zh hn
 have HB:=zh hb;have HO:=zh hO;have fL:=zh kK;have Jr:=zh hB;have HL:=zh hl;have Cy:=zh p8;have HSV:=zh pK;have Jl:=zh mp
 have uu:=heap_alloc_new w (.cells #[.string s,.pointer none,.int .i64 0] 140)
 have sd:(w.alloc (.cells #[.string s,.pointer none,.int .i64 0] 140)).heap.size=w.heap.size+1:=by simp
 have CE:=zh uu;have mG:=zh sd
 have HG:=zh (World.grownBy_alloc w (.cells #[.string s,.pointer none,.int .i64 0] 140) none)
 have qq:=zh (HO.out.kept HG.out)
 clear hb hO kK hB p8 pK mp hl uu sd hn
 go_enter Tryz.func105,Tryz.ntmps105
 go_wp2_with (at_builtin;go_loud (refine el (s:=3) (t:=97) (T:=140) (by decide) Tryz.underlying97 KW rfl (by omega) rfl _ _ rfl B rows [.string s,.pointer none,.int .i64 0] rfl (fun u hu=>by simp at hu;rcases hu with rfl | rfl | rfl<;>rfl) (.slice p rows.length c) rfl qq.out w.heap.size _ rfl CE.out rfl HL.out (by rw [mG.out];have:=Jr.out;omega) (w.heap.size+1) mG.out ?_))
 intro g9 cap9 w9 ii eu ef
 have HP:=zh (bj.put HB.out fL.out Jr.out HO.out Cy.out HSV.out Jl.out HG.out eu (ef.imp id (fun h=>by omega)) ii)
 have aey:b<w9.heap.size:=by have:=eu.size;rw [mG.out] at this;omega
 have kJ:w9.heap[b]? = some (.cells #[.slice p rows.length c] 99 (0,0)):=by
  have bl:(Value.slice p rows.length c).ownBlock≠some b:=fun e=>by have:=(HO.out.at b e).1;have:=fL.out;omega
  have h1:=bx HG.out HB.out
  exact(eu.block b (hlt h1) (fun e=>bl e.symm)).trans h1
 have cb9:w9.cell? ⟨b,0,none⟩=some (.slice p rows.length c):=by rw [cell_of_row w9 b 0 _ _ (0,0) kJ];rfl
 have SX:w9.frozen? ⟨b,0,none⟩=false:=by simp [World.frozen?,kJ]
 clear kJ
 clear ii eu ef
 go_wp2_with fail
 go_end0
 exact⟨rfl,HP.out.1,HP.out.2⟩
theorem oJ (S:Nat→Prop) (B b:Nat) (rows:List (List Value)) (a:Option Addr) (least:Int) (w:World) (h:bj S B b w rows) (hl:rows.length≤1000000):
  Calls Tryz.prog 36 #[.pointer (some ⟨b,0,none⟩),.pointer a,.int .i64 least] w (dy S B b (rows++[[.string ⟨#[]⟩,.pointer a,.int .i64 least]]) w):=by
 obtain⟨v,hb,hO,kK,hB,p8,pK,mp⟩:=h
 have c0:w.cell? ⟨b,0,none⟩=some v:=by rw [cell_of_row w b 0 _ _ (0,0) hb];rfl
 have mV:=hlt hb
 obtain⟨p,c,rfl,-⟩:=hO.is
 obtain⟨n,hn⟩:∃n,rows.length=n:=⟨_,rfl⟩
 have HN:=zh hn
 have HB:=zh hb;have HO:=zh hO;have fL:=zh kK;have Jr:=zh hB;have HL:=zh hl;have Cy:=zh p8;have HSV:=zh pK;have Jl:=zh mp
 have uu:=heap_alloc_new w (.cells #[.string ⟨#[]⟩,.pointer a,.int .i64 least] 140)
 have sd:(w.alloc (.cells #[.string ⟨#[]⟩,.pointer a,.int .i64 least] 140)).heap.size=w.heap.size+1:=by simp
 have CE:=zh uu;have mG:=zh sd
 have HG:=zh (World.grownBy_alloc w (.cells #[.string ⟨#[]⟩,.pointer a,.int .i64 least] 140) none)
 have qq:=zh (HO.out.kept HG.out)
 clear hb hO kK hB p8 pK mp hl uu sd hn
 go_enter Tryz.func36,Tryz.ntmps36
 go_wp2_with (at_builtin;go_loud (refine el (s:=3) (t:=97) (T:=140) (by decide) Tryz.underlying97 KW rfl (by omega) rfl _ _ rfl B rows [.string ⟨#[]⟩,.pointer a,.int .i64 least] rfl (fun u hu=>by simp at hu;rcases hu with rfl | rfl | rfl<;>rfl) (.slice p rows.length c) rfl qq.out w.heap.size _ rfl CE.out rfl HL.out (by rw [mG.out];have:=Jr.out;omega) (w.heap.size+1) mG.out ?_))
 intro g9 cap9 w9 ii eu ef
 have HP:=zh (bj.put HB.out fL.out Jr.out HO.out Cy.out HSV.out Jl.out HG.out eu (ef.imp id (fun h=>by omega)) ii)
 have aey:b<w9.heap.size:=by have:=eu.size;rw [mG.out] at this;omega
 have kJ:w9.heap[b]? = some (.cells #[.slice p rows.length c] 99 (0,0)):=by
  have bl:(Value.slice p rows.length c).ownBlock≠some b:=fun e=>by have:=(HO.out.at b e).1;have:=fL.out;omega
  have h1:=bx HG.out HB.out
  exact(eu.block b (hlt h1) (fun e=>bl e.symm)).trans h1
 have cb9:w9.cell? ⟨b,0,none⟩=some (.slice p rows.length c):=by rw [cell_of_row w9 b 0 _ _ (0,0) kJ];rfl
 have SX:w9.frozen? ⟨b,0,none⟩=false:=by simp [World.frozen?,kJ]
 clear kJ
 clear ii eu ef
 go_wp2_with fail
 go_end0
 exact⟨rfl,HP.out.1,HP.out.2⟩
set_option maxHeartbeats 8000000
def yf (N:List Nd) (K:Kf) (A:Nat→Prop):Prop:=∀(i:Nat) (x:Nd),N[i]? = some x→x.kids≠[]→∀a,(K i).1=some a→A a.block
def kX (w:World) (b:Nat) (l:List Tok) (u:Nat) (N:List Nd) (vn:Value) (A:Nat→Prop):Prop:=∃pt ct K,Bld w b pt ct l u vn N K∧yf N K A
theorem kX.bld {w:World} {b:Nat} {l:List Tok} {u:Nat} {N:List Nd} {vn:Value} {A:Nat→Prop} (h:kX w b l u N vn A):vI w b l u N vn:=by
 obtain⟨pt,ct,K,h,-⟩:=h
 exact⟨pt,ct,K,h⟩
theorem kX.kept {w w':World} {b:Nat} {l:List Tok} {u:Nat} {N:List Nd} {vn:Value} {A:Nat→Prop} (h:kX w b l u N vn A) (hg:w.grownBy w' none):kX w' b l u N vn A:=by
 obtain⟨pt,ct,K,h,hf⟩:=h
 exact⟨pt,ct,K,h.kept hg,hf⟩
theorem kX.keptF {S:Nat→Prop} {w w':World} {b:Nat} {l:List Tok} {u:Nat} {N:List Nd} {vn:Value} {A A':Nat→Prop} (h:kX w b l u N vn A) (hf:Fr2 S w w') (hS:∀k,k≤b→¬S k) (hv:∀k,vn.ownBlock=some k→¬S k) (hA:∀k,A k→¬S k) (hA':∀k,k<w.heap.size→A k→A' k):kX w' b l u N vn A':=by
 obtain⟨pt,ct,K,h,hk⟩:=h
 exact⟨pt,ct,K,h.keptF hf hS hv fun i x hx hn a ha=>hA _ (hk i x hx hn a ha),fun i x hx hn a ha=>hA' _ (h.khi i x hx hn a ha).2.1 (hk i x hx hn a ha)⟩
def iJ (w:World) (b:Nat) (l:List Tok) (u:Nat) (N:List Nd) (x:Nd) (vn:Value) (A:Nat→Prop) (e:Ending) (w':World):Prop:=
 e=.returned (.int .i64 (N.length:Int))∧∃bY,kX w' b l u (N++[x]) bY A∧Fr2 (yD b vn) w w'∧∀k,bY.ownBlock=some k→vn.ownBlock=some k∨w.heap.size≤k
theorem iJ.after {w w1:World} {b:Nat} {l:List Tok} {u:Nat} {N:List Nd} {x:Nd} {vn:Value} {A:Nat→Prop} {e:Ending} {w':World} (h:iJ w1 b l u N x vn A e w') (hf:Fr2 (yD b vn) w w1):iJ w b l u N x vn A e w':=by
 obtain⟨he,bY,h1,h2,h3⟩:=h
 exact⟨he,bY,h1,hf.trans h2,fun k hk=>(h3 k hk).imp id fun h=>Nat.le_trans hf.size h⟩
theorem Bld.addF {A:Nat→Prop} {w w5:World} {b:Nat} {pt:Option Addr} {ct:Nat} {l:List Tok} {u u':Nat} {vn:Value} {N:List Nd} {K:Kf} (h:Bld w b pt ct l u vn N K) (hf:Fr2 (yD b vn) w w5) {g9 n9 cap9:Nat} (eN:w5.heap[b]? = some (.cells #[.slice pt l.length ct,.int .i64 (u':Int),.slice (some ⟨g9,0,none⟩) n9 cap9] 149 (0,0)))
  {x:Nd} {p:Option Addr} {c:Nat} (ey:ak 3 152 w5 (b+1) (.slice (some ⟨g9,0,none⟩) n9 cap9) (l8 K N++[[.int .i64 x.kind,.int .i64 x.tok,.slice p x.kids.length c]])) (hk:VAt w p (bo x.kids)) (L6:x.kids≠[]→∀a,p=some a→b<a.block∧vn.ownBlock≠some a.block)
  (ef:vn.ownBlock=some g9∨w.heap.size≤g9) (RR:yf N K A) (hpA:x.kids≠[]→∀a,p=some a→A a.block):kX w5 b l u' (N++[x]) (.slice (some ⟨g9,0,none⟩) n9 cap9) A:=by
 obtain⟨K',hK1,hK2⟩:=FK K N.length p c
 have lz:∀(i:Nat) (y:Nd),(N++[x])[i]? = some y→(i<N.length∧N[i]? = some y∧K' i=K i)∨(i=N.length∧y=x∧K' i=(p,c)):=fun i y hy=>by
  by_cases hi:i<N.length
  ·rw [List.getElem?_append_left hi] at hy;exact .inl ⟨hi,hy,hK2 i (by omega)⟩
  ·have h1:=(List.getElem?_eq_some_iff.1 hy).1
   rw [List.length_append,List.length_singleton] at h1
   obtain rfl:i=N.length:=by omega
   rw [List.getElem?_append_right (Nat.le_refl _)] at hy
   simp at hy
   exact .inr ⟨rfl,hy.symm,hK1⟩
 refine⟨pt,ct,K',⟨eN,h.cap,h.toks.keptF hf (fun h0 a ha=>?_),h.tlow,by rw [wX hK1 hK2];exact ey,fun i y hy=>?_,fun i y hy hn a ha=>?_⟩,fun i y hy hn a ha=>?_⟩
 ·have h1:=h.tlow h0 a ha
  rintro(e | e)
  ·omega
  ·have:=(h.turn _ e).1;omega
 ·rcases lz i y hy with ⟨-,hy,e⟩ | ⟨-,rfl,e⟩
  ·rw [e]
   refine(h.kids i y hy).keptF hf fun h0 a ha=>?_
   obtain⟨h1,h2,h3⟩:=h.khi i y hy (eB h0) a ha
   rintro(e | e)
   ·omega
   ·exact h3 e
  ·rw [e]
   refine hk.keptF hf fun h0 a ha=>?_
   obtain⟨h1,h3⟩:=L6 (eB h0) a ha
   rintro(e | e)
   ·omega
   ·exact h3 e
 ·have T4:∀k,(Value.slice (some ⟨g9,0,none⟩) n9 cap9).ownBlock=some k→g9=k:=fun k e=>by simpa [Value.ownBlock] using e
  rcases lz i y hy with ⟨-,hy,e⟩ | ⟨-,rfl,e⟩
  ·rw [e] at ha
   obtain⟨h1,h2,h3⟩:=h.khi i y hy hn a ha
   refine⟨h1,zn h2 hf.size,fun e9=>?_⟩
   have:=T4 _ e9
   subst this
   rcases ef with h | h
   ·exact h3 h
   ·omega
  ·rw [e] at ha
   obtain⟨h1,h3⟩:=L6 hn a ha
   have h2:=hk.lt (Aw hn) a ha
   refine⟨h1,zn h2 hf.size,fun e9=>?_⟩
   have:=T4 _ e9
   subst this
   rcases ef with h | h
   ·exact h3 h
   ·omega
 ·rcases lz i y hy with ⟨-,hy,e⟩ | ⟨-,rfl,e⟩
  ·rw [e] at ha;exact RR i y hy hn a ha
  ·rw [e] at ha;exact hpA hn a ha
theorem Eu (A:Nat→Prop) (b:Nat) (l:List Tok) (u:Nat) (N:List Nd) (vn:Value) (x:Nd) (p:Option Addr) (c:Nat) (w:World) (hN:N.length≤100000) (h:kX w b l u N vn A) (hk:VAt w p (bo x.kids)) (L6:x.kids≠[]→∀a,p=some a→b<a.block∧vn.ownBlock≠some a.block) (hpA:x.kids≠[]→∀a,p=some a→A a.block):
  Calls Tryz.prog 85 #[.pointer (some ⟨b,0,none⟩),.agg #[.int .i64 x.kind,.int .i64 x.tok,.slice p x.kids.length c]] w (iJ w b l u N x vn A):=by
 obtain⟨pt,ct,K,h,RR⟩:=h
 have YP:=zh RR;have AD:=zh hpA;have H:=zh h;have HK:=zh hk;have HKB:=zh L6
 obtain⟨pv,cv,e1,-,hcv,-⟩:=h.own.is
 rw [iX] at e1 hcv
 subst e1
 obtain⟨B,hB⟩:∃B,w.heap.size=B:=⟨_,rfl⟩
 have mD:=zh hB
 have kK:b<B:=by rw [←hB];exact j3 h.box
 have Z3:=zh h.own
 have wZ:Hid ((l8 K N).length≤1000000):=zh (by rw [iX];omega)
 have VC:Hid ((l8 K N).length=N.length):=zh (iX K N)
 obtain⟨m,hm⟩:∃m,l.length=m:=⟨_,rfl⟩
 obtain⟨M,hM⟩:∃M,N.length=M:=⟨_,rfl⟩
 have zA:=zh hM
 have ky:=zh hm
 obtain⟨kl,jo⟩:∃kl,x.kids.length=kl:=⟨_,rfl⟩
 have JB:=zh jo
 rw [hM] at Z3
 obtain⟨xk,RC⟩:∃xk,x.kind=xk:=⟨_,rfl⟩
 obtain⟨xt,Bj⟩:∃xt,x.tok=xt:=⟨_,rfl⟩
 have HXK:=zh RC;have Z6:=zh Bj
 have eN:=h.box
 rw [hm,hM] at eN
 rw [RC,Bj,jo]
 have hA:=heap_alloc_new w (.cells #[.int .i64 xk,.int .i64 xt,.slice p kl c] 152)
 have lF:=World.grownBy_alloc w (.cells #[.int .i64 xk,.int .i64 xt,.slice p kl c] 152) none
 have BI:(w.alloc (.cells #[.int .i64 xk,.int .i64 xt,.slice p kl c] 152)).heap.size=B+1:=by simp [hB]
 obtain⟨d0,d1,d2,d3⟩:=dO (bx lF eN)
 have Jq:=zh eN
 rw [hB] at hA
 obtain⟨a0,a1,a2,a3⟩:=dO hA
 clear RR hpA eN hm hM jo RC Bj h hk L6 hcv
 go_enter Tryz.func85,Tryz.ntmps85
 go_wp2_with fail
 try rw [hB]
 generalize (w.alloc (.cells #[.int .i64 xk,.int .i64 xt,.slice p kl c] 152))=W at *
 have Y2:=zh (ak.kept Z3.out lF)
 have Bo:=zh lF
 have Gn:=heap_alloc_new W (.cells #[.int .i64 xk,.int .i64 xt,.slice p kl c] 152)
 rw [BI] at Gn
 have lT:=zh Gn
 have afj:=zh (bx (World.grownBy_alloc W (.cells #[.int .i64 xk,.int .i64 xt,.slice p kl c] 152) none) (bx lF Jq.out))
 have Uc:∀k,(Value.slice pv M cv).ownBlock=some k→b+1≤k∧k<B+1:=fun k e=>by
  obtain⟨h1,h2⟩:=ak.at Y2.out k e
  omega
 have HOA:=zh Uc
 clear hA lF hB Gn Uc
 go_region_law (refine fc (s:=3) (t:=40) (T:=152) (by decide) Tryz.underlying40 Ny rfl (by omega) rfl _ _ rfl (b+1) (l8 K N) [.int .i64 xk,.int .i64 xt,.slice p kl c] rfl (fun u hu=>by simp at hu;rcases hu with rfl | rfl | rfl<;>rfl) (.slice pv M cv) rfl (ak.kept Y2.out gbx) (B+1) _ rfl (by exact lT.out) rfl wZ.out (by simp;omega) (B+2) (by simp;omega) ?_;intro g9 cap9 w9 ii eu ef;have kJ:=(eu.block b (by simp;omega) (fun e=>by have:=(HOA.out b e.symm).1;omega)).trans afj.out;obtain⟨f0,f1,f2,f3⟩:=dO kJ;have rf:=zh kJ;have ss:=zh ii;have rr:=zh eu;have zw:=zh ef;clear ii eu ef kJ)
 all_goals
  rw [VC.out,zA.out] at ss ⊢
  have HF9:Hid (Fr2 (yD b (.slice pv M cv)) w w9):=zh (Fr2.trans (b:=(W.alloc (.cells #[.int .i64 xk,.int .i64 xt,.slice p kl c] 152)).drew) (Fr2.none (aa Bo.out (aF (ae (ad _ _) _)))) (Fr2.of (S:=yD b (.slice pv M cv)) rr.out (fun k e=>Or.inr e)))
  have nj:=zh (HF9.out.setCell (g:=b) (j:=2) (.inl rfl) (.slice (some ⟨g9,0,none⟩) (M+1) cap9))
  have qv:=zh (show(w9.setCell ⟨b,2,none⟩ (.slice (some ⟨g9,0,none⟩) (M+1) cap9)).heap[b]? = some (.cells #[.slice pt m ct,.int .i64 (u:Int),.slice (some ⟨g9,0,none⟩) (M+1) cap9] 149 (0,0)) from ab (i:=2) rf.out)
  have sq:=zh (ak.keptF ss.out (Fr2.setCell (S:=fun k=>k=b) (Fr2.refl _ w9) (g:=b) (j:=2) rfl (.slice (some ⟨g9,0,none⟩) (M+1) cap9)) (fun k e=>by have:=(ak.at ss.out k e).1;omega))
  obtain⟨W5,hW5⟩:∃W5,(w9.setCell ⟨b,2,none⟩ (.slice (some ⟨g9,0,none⟩) (M+1) cap9))=W5:=⟨_,rfl⟩
  rw [hW5] at nj qv sq ⊢
  clear HF9 rf ss hW5 d0 d1 d2 d3 f0 f1 f2 f3 a0 a1 a2 a3 rr
  obtain⟨f0,f1,f2,f3⟩:=dO qv.out
  have rC:IntKind.i64.wrap (M:Int)=(M:Int):=IntWalk.i64_in _ (by have:=zA.out;omega)
  have eE:IntKind.i64.wrap (((M+1:Nat):Int) - 1)=(M:Int):=by rw [show(((M+1:Nat):Int) - 1)=(M:Int) by omega];exact rC
  go_wp2_with fail
  go_ret
  refine⟨by rw [zA.out];rfl,_,Bld.addF H.out (by rw [zA.out];exact nj.out) (by rw [ky.out];exact qv.out) (by rw [HXK.out,Z6.out,JB.out];exact sq.out) HK.out HKB.out (by rw [zA.out,mD.out];exact zw.out.imp id (fun h=>by omega)) YP.out AD.out,by rw [zA.out];exact nj.out,fun k e=>?_⟩
  have h1:g9=k:=by simpa [Value.ownBlock] using e
  subst h1
  rw [zA.out,mD.out]
  exact zw.out.imp id (fun h=>by omega)
theorem JZ (A:Nat→Prop) (b:Nat) (l:List Tok) (u:Nat) (N:List Nd) (vn:Value) (w:World) (hl:l.length≤100000) (hu:u<l.length) (hN:N.length≤100000) (h:kX w b l u N vn A):
  Calls Tryz.prog 117 #[.pointer (some ⟨b,0,none⟩)] w (iJ w b l (u+1) N ⟨19,(u:Int),[]⟩ vn A):=by
 obtain⟨pt,ct,K,h,RR⟩:=h
 have eN:=h.box
 have Jd:=zh (fun W (h:kX W b l (u+1) N vn A)=>Eu A b l (u+1) N vn ⟨19,(u:Int),[]⟩ none 0 W hN h (.inl rfl) (fun h=>absurd rfl h) (fun h=>absurd rfl h))
 obtain⟨pv,cv,e1,-,-,-⟩:=h.own.is
 have HH:=zh h
 obtain⟨m,hm⟩:∃m,l.length=m:=⟨_,rfl⟩
 rw [hm] at eN hu hl
 have HP:Hid (∀W e w',Fr2 (yD b vn) w W→iJ W b l (u+1) N ⟨19,(u:Int),[]⟩ vn A e w'→iJ w b l (u+1) N ⟨19,(u:Int),[]⟩ vn A e w'):=zh (fun _ _ _ h1 h2=>h2.after h1)
 have HF:Hid (∀W,w.grownBy W none→Fr2 (yD b vn) w (W.setCell ⟨b,1,none⟩ (.int .i64 ((u+1:Nat):Int)))∧kX (W.setCell ⟨b,1,none⟩ (.int .i64 ((u+1:Nat):Int))) b l (u+1) N vn A):=zh (fun W hg=>⟨(Fr2.none hg).setCell (g:=b) (j:=1) (.inl rfl) _,pt,ct,K,(HH.out.kept hg).setUsed (u+1),RR⟩)
 obtain⟨d0,d1,d2,d3⟩:=dO eN
 have e1:((u:Int) == (m:Int))=false:=beq_eq_false_iff_ne.2 (by omega)
 have e2:(u == m)=false:=beq_eq_false_iff_ne.2 (by omega)
 have rC:IntKind.i64.wrap ((u:Int)+1)=((u+1:Nat):Int):=by rw [IntWalk.i64_in _ (by omega)];omega
 have eE:IntKind.i64.wrap (((u+1:Nat):Int) - 1)=(u:Int):=by rw [IntWalk.i64_in _ (by omega)];omega
 generalize iJ w b l (u+1) N ⟨19,(u:Int),[]⟩ vn A=Q at HP
 obtain⟨u1,pM⟩:∃u1,u+1=u1:=⟨_,rfl⟩
 rw [pM] at rC eE HF Jd HP
 clear eN hm h pM
 go_enter Tryz.func117,Tryz.ntmps117
 go_wp2_with fail
 go_quiet (fail)
 go_wp2_with fail
 obtain⟨kM,fw⟩:=HF.out (w.drewN nq) (ap (ad _ _) _)
 refine(Jd.out _ fw).mono ?_
 rintro e w' hp
 have OG:=zh (HP.out _ _ _ kM hp)
 obtain rfl:=hp.1
 clear hp kM fw HP HF Jd
 go_wp2_with fail
 exact OG.out
theorem Bd (A:Nat→Prop) (b:Nat) (l:List Tok) (u:Nat) (N:List Nd) (vn:Value) (kind:Int) (kids:List Int) (q:Option Addr) (c:Nat) (w:World) (hN:N.length≤100000) (hk:kids.length≤100000) (h:kX w b l u N vn A) (hA:∀k,w.heap.size≤k→A k) (hq:VAt w q (bo kids)) (dp:okB N.length kids=true):
  Calls Tryz.prog 45 #[.pointer (some ⟨b,0,none⟩),.int .i64 kind,.slice q kids.length c] w (iJ w b l u N ⟨kind,-1,kids⟩ vn A):=by
 obtain⟨pt,ct,K,h,RR⟩:=h
 have eN:=h.box
 have HH:=zh h
 have YP:=zh RR;have HFA:=zh hA
 have Jd:=zh (fun W p' c' (h:kX W b l u N vn A) h1 h2 h3=>Eu A b l u N vn ⟨kind,-1,kids⟩ p' c' W hN h h1 h2 h3)
 have HE:=zh (rs N.length kids q c w (by omega) (by omega) hq)
 rw [dp] at HE
 have T6:=zh (fun W h=>wQ kind (-1) kids q c W hk h)
 have HQ:=zh hq
 have HTN:=zh h.turn
 have vm:=j3 h.box
 have Cx:=zh vm
 have HP:Hid (∀W e w',Fr2 (yD b vn) w W→iJ W b l u N ⟨kind,-1,kids⟩ vn A e w'→iJ w b l u N ⟨kind,-1,kids⟩ vn A e w'):=zh (fun _ _ _ h1 h2=>h2.after h1)
 obtain⟨pv,cv,e1,-,-,-⟩:=h.own.is
 rw [iX] at e1
 obtain⟨m,hm⟩:∃m,l.length=m:=⟨_,rfl⟩
 obtain⟨M,hM⟩:∃M,N.length=M:=⟨_,rfl⟩
 obtain⟨kl,jo⟩:∃kl,kids.length=kl:=⟨_,rfl⟩
 have HM:=zh hM;have JB:=zh jo
 rw [hM] at e1
 rw [hm,e1] at eN
 rw [hM,jo] at HE
 rw [jo] at T6
 rw [jo]
 generalize iJ w b l u N ⟨kind,-1,kids⟩ vn A=Q at HP
 obtain⟨d0,d1,d2,d3⟩:=dO eN
 clear RR hA eN hm h hM jo dp hq hk hN e1 vm
 go_enter Tryz.func45,Tryz.ntmps45
 go_wp2_with fail
 refine HE.out.mono ?_
 rintro e w1 ⟨rfl,hg⟩
 have HG:=zh hg
 clear hg HE
 go_wp2_with fail
 refine(T6.out _ (HQ.out.kept HG.out)).mono ?_
 rintro e w2 ⟨bT,p2,c2,rfl,Jz,-,dC⟩
 have cz:=zh (aa HG.out bT)
 have vv:=zh Jz
 have fu:=zh dC
 have zy:=HG.out.size
 have Aa:=zh zy
 rw [JB.out]
 clear bT Jz dC zy T6
 go_wp2_with fail
 have HA:=zh (Jd.out w2 p2 c2 ⟨pt,ct,K,HH.out.kept cz.out,YP.out⟩ vv.out (fun bl a ha=>by
  obtain⟨h1,-⟩:=fu.out bl a ha
  have h2:=Aa.out
  have h3:=Cx.out
  refine⟨by omega,fun e=>?_⟩
  have:=(HTN.out _ e).2
  omega) (fun bl a ha=>HFA.out _ (by
  have h1:=(fu.out bl a ha).1
  have h2:=Aa.out
  omega)))
 rw [JB.out] at HA
 refine HA.out.mono ?_
 rintro e w' hp
 have OG:=zh (HP.out _ _ _ (Fr2.none cz.out) hp)
 obtain rfl:=hp.1
 clear hp HP Jd HA
 go_wp2_with fail
 exact OG.out
end Go.Proofs.YtjbgnopnehgbaaaGreatDoor
