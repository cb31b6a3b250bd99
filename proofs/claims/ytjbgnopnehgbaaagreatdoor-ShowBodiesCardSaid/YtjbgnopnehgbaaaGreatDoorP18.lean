/- Lemmas. -/
import Derived.Test.YtjbgnopnehgbaaaGreatDoorP17
import Derived.Test.YtjbgnopnehgbaaaGreatDoorP50
set_option linter.unusedVariables false
set_option linter.unusedSimpArgs false
set_option maxHeartbeats 16000000
set_option maxRecDepth 100000
namespace Go.Proofs.YtjbgnopnehgbaaaGreatDoor
open Go.RowKit
mutual
theorem qm {f:Bool}:∀ {x:Sx},bf f x=true→okS x→ll x
 | .mk op nm md nu ys ks ps,h,ho=>by
   simp only [bf,iR,Bool.and_eq_true] at h
   simp only [okS] at ho
   simp only [ll]
   exact⟨⟨of_decide_eq_true h.1.2.1.1.1.1.1,of_decide_eq_true h.1.2.1.1.1.1.2,h.1.2.1.1.1.2,ho.1.1,ho.1.2.1,ho.1.2.2⟩,uw h.2 ho.2⟩
theorem uw {f:Bool}:∀ {l:List Sx},cx f l=true→jD l→jQ l
 | [],_,_=>by simp [jQ]
 | x::l,h,ho=>by
   simp only [cx,Bool.and_eq_true] at h
   simp only [jD] at ho
   simp only [jQ]
   exact⟨qm h.1 ho.1,uw h.2 ho.2⟩
end
theorem acd {w w':World} {S:Nat→Prop} (h:Fr2 S w w') (hS:∀k,S k→w.heap.size≤k):w.grownBy w' none:=bz (h.below (Nat.le_refl _) hS)
theorem fW.lt {w:World} (h:fW w):5<w.heap.size:=by
 have:=h 0 _ rfl
 rcases Nat.lt_or_ge 5 w.heap.size with h1 | h1
 ·exact h1
 ·exfalso;simp [World.cell?,Array.getElem?_eq_none h1] at this
theorem sV (F:Nat→Prop) (g o:Nat) (x:Sx) (q:List Value) (w:World) (cg:fW w) (hx:SAt F w x q) (hF:∀k,F k→k<w.heap.size) (hg:g<w.heap.size) (hc:∀i v,q[i]? = some v→w.cell? ⟨g,o+i,none⟩=some v) (yH:ll x) (Mu:wgS x≤500000) (ht:(txS x).length≤1000000000):
  Calls Tryz.prog 16 #[.pointer (some ⟨g,o,none⟩)] w (fun e w'=>e=.returned (.string ⟨(txS x).toArray⟩)∧w.grownBy w' none):=by
 have dG:=World.grownBy_alloc w (.cells #[.slice none 0 0] 99) none
 have hW:bj (fun k=>k<w.heap.size) (w.heap.size+1) w.heap.size (w.alloc (.cells #[.slice none 0 0] 99)) []:=
  ⟨.slice none 0 0,heap_alloc_new w _,ak.nil _ _ _ _,by omega,by simp,by omega,fun k hk=>by simp [Value.ownBlock] at hk,fun k hk=>by simp;omega⟩
 have HE:=zh (oJ _ _ _ [] (some ⟨g,o,none⟩) (0:Int) _ hW (by simp))
 have HT:Hid (∀w2,bj (fun k=>k<w.heap.size) (w.heap.size+1) w.heap.size w2 [jx g o 0]→Fr2 (fun k=>¬k<w.heap.size) w w2→Calls Tryz.prog 37 #[.pointer (some ⟨w.heap.size,0,none⟩)] w2 (fun e w'=>e=.returned (.string ⟨(txS x).toArray⟩)∧Fr2 (fun k=>¬k<w.heap.size) w2 w')):=zh (fun w2 h2 hf=>by
  have hp:bp (fun k=>F k∨k=g) w2 [.ex x 0] [jx g o 0]:=⟨_,_,rfl,⟨g,o,q,rfl,.inr rfl,zn hg hf.size,(hx.same hf (fun k hk e=>e (hF k hk))).mono (fun k hk=>.inl hk),fun i v hi=>by rw [World.cell?_of_block (w:=w) (hf.block g hg (fun e=>e hg))];exact hc i v hi⟩,rfl⟩
  have YI:bu [.ex x 0]=txS x:=by simp [bu,gL,ji,Dl]
  have:=RU (fun k=>k<w.heap.size) (fun k=>F k∨k=g) (w.heap.size+1) w.heap.size [jx g o 0] [.ex x 0] w2 h2 hp (by simp) (by simp [eP,wgP];exact Mu) (by simp) (fun k hk=>by rcases hk with hk | rfl;exact hF k hk;exact hg) cg.lt (cg.same hf cg.lt cg.lt) (fun p hp=>by simp at hp;subst hp;exact yH) (by rw [YI];exact ht)
  rw [YI] at this
  exact this)
 have HG:=zh dG
 clear cg hx hF hc yH Mu ht hW dG
 obtain⟨T,hT⟩:∃T,txS x=T:=⟨_,rfl⟩
 rw [hT] at HT ⊢
 clear hT
 go_enter Tryz.func16,Tryz.ntmps16
 go_wp2_with fail
 refine HE.out.mono ?_
 rintro e w2 ⟨rfl,eE,dK⟩
 have hf:Fr2 (fun k=>¬k<w.heap.size) w w2:=(Fr2.none HG.out).trans dK
 have ns:=zh (HT.out w2 eE hf)
 have HF:=zh hf
 clear eE dK hf HT HE
 go_wp2_with fail
 refine ns.out.mono ?_
 rintro e w3 ⟨rfl,fI⟩
 have eg:=zh (acd (HF.out.trans fI) (fun k hk=>by omega))
 clear fI
 go_wp2_with fail
 go_ret
 exact⟨rfl,eg.out⟩
theorem A5 (F:Nat→Prop) (a0:Addr) (x0:Sx) (q0:List Value) (w:World) (cg:cM w) (hc:CAt w a0 q0) (hx:SAt F w x0 q0) (db:bw x0≤1000000) (dp:okS x0) (hF:∀k,F k→k<w.heap.size):
  Calls Tryz.prog 28 #[.pointer (some a0)] w (dY (bf true x0) w):=by
 have HR:=zh (xM true 59 (.inl ⟨rfl,rfl⟩) F a0 x0 q0 w cg hc hx db dp hF)
 clear cg hc hx db dp hF
 go_enter Tryz.func28,Tryz.ntmps28
 go_wp2_with fail
 refine HR.out.mono ?_
 rintro e w2 ⟨rfl,hg⟩
 have HG:=zh hg
 clear hg
 go_wp2_with fail
 go_ret
 exact⟨rfl,HG.out⟩
theorem JV (F:Nat→Prop) (a0:Addr) (x0:Sx) (q0:List Value) (w:World) (cg:cM w) (hc:CAt w a0 q0) (hx:SAt F w x0 q0) (db:bw x0≤1000000) (dp:okS x0) (hF:∀k,F k→k<w.heap.size):
  Calls Tryz.prog 15 #[.pointer (some a0)] w (dY (bf false x0) w):=by
 have HR:=zh (xM false 35 (.inr ⟨rfl,rfl⟩) F a0 x0 q0 w cg hc hx db dp hF)
 clear cg hc hx db dp hF
 go_enter Tryz.func15,Tryz.ntmps15
 go_wp2_with fail
 refine HR.out.mono ?_
 rintro e w2 ⟨rfl,hg⟩
 have HG:=zh hg
 clear hg
 go_wp2_with fail
 go_ret
 exact⟨rfl,HG.out⟩
def lW (f:Bool) (x:Sx) (w:World) (e:Ending) (w':World):Prop:=e=.returned (.tuple #[.string ⟨(if bf f x then txS x else []).toArray⟩,.int .i64 (if bf f x then 0 else 10)])∧w.grownBy w' none
theorem GD (F:Nat→Prop) (x:Sx) (q:List Value) (w:World) (cg:cM w) (hlw:fW w) (hx:SAt F w x q) (hF:∀k,F k→k<w.heap.size) (db:bw x≤1000000) (dp:okS x) (Mu:wgS x≤500000) (ht:(txS x).length≤1000000000):
  Calls Tryz.prog 11 #[.agg q.toArray] w (lW true x w):=by
 have dG:=World.grownBy_alloc w (.cells q.toArray 30) none
 have uu:=heap_alloc_new w (.cells q.toArray 30)
 have rp:∀i v,q[i]? = some v→(w.alloc (.cells q.toArray 30)).cell? ⟨w.heap.size,0+i,none⟩=some v:=fun i v hi=>by
  rw [Nat.zero_add,cell_of_row _ w.heap.size i _ _ (0,0) uu];simpa using hi
 have En:(w.alloc (.cells q.toArray 30)).heap.size=w.heap.size+1:=by simp
 have Mo:=hx.kept dG
 have Er:∀k,F k→k<(w.alloc (.cells q.toArray 30)).heap.size:=fun k hk=>by have:=hF k hk;omega
 have HI:=zh (A5 F ⟨w.heap.size,0,none⟩ x q _ (cg.kept dG) ⟨_,_,rfl,⟨by omega,_,_,uu⟩,rp⟩ Mo db dp Er)
 have HT:Hid (bf true x=true→∀w2,(w.alloc (.cells q.toArray 30)).grownBy w2 none→Calls Tryz.prog 16 #[.pointer (some ⟨w.heap.size,0,none⟩)] w2 (fun e w'=>e=.returned (.string ⟨(txS x).toArray⟩)∧w2.grownBy w' none)):=zh (fun hr w2 hg=>by
  refine sV F w.heap.size 0 x q w2 (fun j l hj=>hg.cell (dG.cell (hlw j l hj) (by simp)) (by simp)) (Mo.kept hg) (fun k hk=>zn (Er k hk) hg.size) (zn (by omega) hg.size) (fun i v hi=>hg.cell (rp i v hi) (by simp)) (qm hr dp) Mu ht)
 obtain⟨v0,v1,v2,v3,v4,v5,v6,v7,rfl⟩:∃v0 v1 v2 v3 v4 v5 v6 v7,q = [v0,v1,v2,v3,v4,v5,v6,v7]:=by
  have:=hx.len
  match q,this with
  | [v0,v1,v2,v3,v4,v5,v6,v7],_=>exact⟨_,_,_,_,_,_,_,_,rfl⟩
 have HG:=zh dG
 clear cg hlw hx hF db dp Mu ht dG uu rp En Mo Er
 unfold lW
 obtain⟨T,hT⟩:∃T,txS x=T:=⟨_,rfl⟩
 obtain⟨r,hr⟩:∃r,bf true x=r:=⟨_,rfl⟩
 rw [hT] at HT ⊢
 rw [hr] at HT HI ⊢
 clear hT hr
 go_enter Tryz.func11,Tryz.ntmps11
 go_wp2_with fail
 refine HI.out.mono ?_
 rintro e w2 ⟨rfl,bT⟩
 have ns:=zh (fun hr=>HT.out hr w2 bT)
 have cz:=zh (aa HG.out bT)
 clear bT HT HI HG
 cases r with
 | false=>
   go_wp2_with fail
   go_ret2
   exact⟨rfl,cz.out⟩
 | true=>
   go_wp2_with fail
   refine(ns.out trivial).mono ?_
   rintro e w3 ⟨rfl,fM⟩
   have eg:=zh (aa cz.out fM)
   clear fM
   go_wp2_with fail
   go_ret2
   exact⟨rfl,eg.out⟩
theorem Mg (F:Nat→Prop) (x:Sx) (q:List Value) (w:World) (cg:cM w) (hlw:fW w) (hx:SAt F w x q) (hF:∀k,F k→k<w.heap.size) (db:bw x≤1000000) (dp:okS x) (Mu:wgS x≤500000) (ht:(txS x).length≤1000000000):
  Calls Tryz.prog 6 #[.agg q.toArray] w (lW false x w):=by
 have dG:=World.grownBy_alloc w (.cells q.toArray 30) none
 have uu:=heap_alloc_new w (.cells q.toArray 30)
 have rp:∀i v,q[i]? = some v→(w.alloc (.cells q.toArray 30)).cell? ⟨w.heap.size,0+i,none⟩=some v:=fun i v hi=>by
  rw [Nat.zero_add,cell_of_row _ w.heap.size i _ _ (0,0) uu];simpa using hi
 have En:(w.alloc (.cells q.toArray 30)).heap.size=w.heap.size+1:=by simp
 have Mo:=hx.kept dG
 have Er:∀k,F k→k<(w.alloc (.cells q.toArray 30)).heap.size:=fun k hk=>by have:=hF k hk;omega
 have HI:=zh (JV F ⟨w.heap.size,0,none⟩ x q _ (cg.kept dG) ⟨_,_,rfl,⟨by omega,_,_,uu⟩,rp⟩ Mo db dp Er)
 have HT:Hid (bf false x=true→∀w2,(w.alloc (.cells q.toArray 30)).grownBy w2 none→Calls Tryz.prog 16 #[.pointer (some ⟨w.heap.size,0,none⟩)] w2 (fun e w'=>e=.returned (.string ⟨(txS x).toArray⟩)∧w2.grownBy w' none)):=zh (fun hr w2 hg=>by
  refine sV F w.heap.size 0 x q w2 (fun j l hj=>hg.cell (dG.cell (hlw j l hj) (by simp)) (by simp)) (Mo.kept hg) (fun k hk=>zn (Er k hk) hg.size) (zn (by omega) hg.size) (fun i v hi=>hg.cell (rp i v hi) (by simp)) (qm hr dp) Mu ht)
 obtain⟨v0,v1,v2,v3,v4,v5,v6,v7,rfl⟩:∃v0 v1 v2 v3 v4 v5 v6 v7,q = [v0,v1,v2,v3,v4,v5,v6,v7]:=by
  have:=hx.len
  match q,this with
  | [v0,v1,v2,v3,v4,v5,v6,v7],_=>exact⟨_,_,_,_,_,_,_,_,rfl⟩
 have HG:=zh dG
 clear cg hlw hx hF db dp Mu ht dG uu rp En Mo Er
 unfold lW
 obtain⟨T,hT⟩:∃T,txS x=T:=⟨_,rfl⟩
 obtain⟨r,hr⟩:∃r,bf false x=r:=⟨_,rfl⟩
 rw [hT] at HT ⊢
 rw [hr] at HT HI ⊢
 clear hT hr
 go_enter Tryz.func6,Tryz.ntmps6
 go_wp2_with fail
 refine HI.out.mono ?_
 rintro e w2 ⟨rfl,bT⟩
 have ns:=zh (fun hr=>HT.out hr w2 bT)
 have cz:=zh (aa HG.out bT)
 clear bT HT HI HG
 cases r with
 | false=>
   go_wp2_with fail
   go_ret2
   exact⟨rfl,cz.out⟩
 | true=>
   go_wp2_with fail
   refine(ns.out trivial).mono ?_
   rintro e w3 ⟨rfl,fM⟩
   have eg:=zh (aa cz.out fM)
   clear fM
   go_wp2_with fail
   go_ret2
   exact⟨rfl,eg.out⟩
section
variable (f:Bool) (T:List Tok) (D:Nat)
def PaB (x:Sx):Prop:=∀d i,2*bw x≤d→d≤D→MtK T i (tkB x)→∀L,L≤min 8 (aV x.op)→fZ T (i+(tkB x).length)<max 1 L→rZ T f (pf T D (D - d) (nxT T D d) L) i (i+(tkB x).length) x
end
theorem EF {T:List Tok} {c:Bool} {i lev:Nat} {A:List Tk} (h:HdK lev A) (hm:MtK T i A) (hl:5≤lev):isQ T [110,111,116] (sI c i)=false:=by
 obtain⟨t,l,rfl,h1,h2,h3,h4,h5,h6,h7⟩:=h
 obtain⟨⟨k,hk,e1,e2⟩,-⟩:=hm.cons
 rw [aS hk]
 refine decide_eq_false (fun ⟨a,b⟩=>?_)
 rw [e1,e2] at *
 rcases a with a | a
 ·have:=h5 a b;omega
 ·rcases h4 a with e | e<;>rw [e] at b<;>simp at b
theorem Xz {T:List Tok} {c:Bool} {i lev:Nat} {A:List Tk} (h:HdB lev A) (hm:MtK T i A) (hl:1≤lev):BW T c i:=by
 obtain⟨⟨t,l,rfl,h1,h2,h3,h4,h5,h6,h7⟩,h8⟩:=h
 obtain⟨⟨k,hk,e1,e2⟩,-⟩:=hm.cons
 have h9:=h8 hl t rfl
 have oS:∀w,(t.k=2→t.t≠w)→w≠[45]→w≠[40]→isQ T w (sI c i)=false:=fun w g1 g2 g3=>by
  rw [aS hk]
  refine decide_eq_false (fun ⟨a,b⟩=>?_)
  rw [e1,e2] at *
  rcases a with a | a
  ·exact g1 a b
  ·rcases h4 a with e | e<;>rw [e] at b<;>simp [←b] at g2 g3
 exact fun _=>⟨oS _ (fun a=>(h9 a).1) (by decide) (by decide),oS _ (fun a=>(h9 a).2.1) (by decide) (by decide),oS _ (fun a=>(h9 a).2.2) (by decide) (by decide)⟩
theorem mx {f:Bool} {T:List Tok} {D:Nat} {a:Sx} (hp:PaB f T D a) (hF:Fmx f a) {least d i:Nat} (hd:2*bw a+1≤d) (hD:d≤D) (hm:MtK T i (wB a least)) {L:Nat} (hL:L≤min 8 least) (ho:fZ T (i+(wB a least).length)<max 1 L):
  rZ T f (pf T D (D - d) (nxT T D d) L) i (i+(wB a least).length) a:=by
 by_cases hl:aV a.op<least
 ·have e:wB a least=⟨false,4,[40]⟩::(tkB a++[⟨false,4,[41]⟩]):=by unfold wB gI;rw [if_pos hl]
  rw [e] at hm ho ⊢
  obtain⟨⟨k1,g1,g2,g3⟩,pP⟩:=hm.cons
  obtain⟨zU,yP⟩:=pP.app
  obtain⟨⟨k2,g4,g5,g6⟩,-⟩:=yP.cons
  simp only [] at g2 g3 g5 g6
  obtain⟨d',rfl⟩:∃d',d=d'+1:=⟨d - 1,by omega⟩
  have ho2:fZ T (i+1+(tkB a).length)=0:=by rw [fJ g4];simp [jj,g5,g6,qI,vx]
  obtain⟨t,h1,h2,h3⟩:=hp d' (i+1) (by omega) (by omega) zU 0 (Nat.zero_le _) (by rw [ho2];decide)
  have bB:i+((⟨false,4,[40]⟩:Tk)::(tkB a++[⟨false,4,[41]⟩])).length=i+1+(tkB a).length+1:=by simp;omega
  rw [bB] at ho ⊢
  have hq:∀w,w≠[40]→isQ T w (sI f i)=false:=fun w hw=>by rw [aS g1];exact decide_eq_false (fun h=>hw (by rw [←h.2,g3]))
  have h8:rZ T f (pf T D (D - (d'+1)) (nxT T D (d'+1)) 8) i (i+1+(tkB a).length+1) a:=by
   refine⟨.nd 12 [.lf i,t,.lf (i+1+(tkB a).length)],?_,rfl,by rw [Vc h2];exact h3⟩
   have h1:(nxT T D (d'+1)).expr (sI f (i+1))=([t],sI f (i+1+(tkB a).length)):=h1
   have hs:isQ T [41] (sI f (i+1+(tkB a).length))=true:=by rw [aS g4];exact zd ⟨.inr g5,g6⟩
   have ad6:isQ T [40] (sI f i)=true:=by rw [aS g1];exact zd ⟨.inr g2,g3⟩
   show aL T D _ _ (sI f i)=_
   unfold aL
   rw [hq [45] (by decide)]
   simp only [Bool.false_eq_true,if_false]
   unfold bC
   rw [hq [116,114,117,101] (by decide),hq [102,97,108,115,101] (by decide),hq [114,101,115] (by decide),ad6,fh g1,g2,aU g1 (by rw [g2];decide)]
   simp only [h1]
   unfold aj
   rw [hs,aU g4 (by rw [g5];decide)]
   simp
  exact LP (by omega) (Nat.le_refl 8) h8 ho (by omega) (fun _ _=>hq _ (by decide)) (fun _ _=>⟨hq _ (by decide),hq _ (by decide),hq _ (by decide)⟩)
 ·have e:wB a least=tkB a:=by unfold wB gI;rw [if_neg hl]
  rw [e] at hm ho ⊢
  exact hp d i (by omega) hD hm L (by omega) ho
theorem Qw {f:Bool} {x:Sx} (h:Fmx f x) (hl:aV x.op=7∨aV x.op=6∨aV x.op=3∨aV x.op=2):∃op a b ps,x=.mk op [] [] 0 false [a,b] ps∧7≤op∧op≤20∧Fmx f a∧Fmx f b:=by
 cases h with
 | bin op a b ps h1 h2 ha hb=>exact⟨op,a,b,ps,rfl,h1,h2,ha,hb⟩
 | _=>simp [Sx.op,aV] at hl
section
variable {f:Bool} {T:List Tok} {D:Nat}
def agM (f:Bool) (T:List Tok) (D d l i k:Nat) (x:Sx):Prop:=∃g t,pf T D (D - d) (nxT T D d) l (sI f i)=rwT T (cR T l) (pf T D (D - d) (nxT T D d) (l+1)) g ([t],sI f k)∧T.length - k+1≤g∧isN t=true∧npE (axT T t)=npS x
theorem Vt {N l:Nat} (hl:l=7∨l=6∨l=3∨l=2) (ih:∀y,bw y≤N→Fmx f y→PaB f T D y):∀(M:Nat) (a:Sx),bw a≤M→M≤N+1→(aV a.op=l∨bw a≤N)→Fmx f a→∀d i,2*bw a≤d→(aV a.op≠l→2*bw a+1≤d)→d≤D→MtK T i (wB a l)→fZ T (i+(wB a l).length)<l+1→agM f T D d l i (i+(wB a l).length) a:=by
 intro M
 induction M with
 | zero=>intro a h;have:=gz a;omega
 | succ M ihM=>
   intro a hM hMN hor hF d i hd pN hD hm ho
   by_cases hlev:aV a.op=l
   ·obtain⟨op,p,q,ps,rfl,h1,h2,hp,hq⟩:=Qw hF (by rw [hlev];exact hl)
    have M9:aV op=l:=hlev
    have db:bw (.mk op [] [] 0 false [p,q] ps)=1+(bw p+(bw q+0)):=rfl
    have Fi:=gz p
    have hqq:=gz q
    have e:wB (.mk op [] [] 0 false [p,q] ps) l=wB p l++⟨true,4,eJ op⟩::ldK (wB q (l+1)):=by
     have e0:wB (.mk op [] [] 0 false [p,q] ps) l=tkB (.mk op [] [] 0 false [p,q] ps):=by unfold wB gI;rw [if_neg (by rw [hlev];omega)]
     rw [e0,nM h1 h2,M9]
     have ea:iu l=l:=by rcases hl with rfl | rfl | rfl | rfl<;>rfl
     have eb:iT l=l+1:=by rcases hl with rfl | rfl | rfl | rfl<;>rfl
     rw [ea,eb]
    rw [e] at hm ho ⊢
    obtain⟨vk,pP⟩:=hm.app
    obtain⟨⟨tok,g1,g2,g3⟩,zU⟩:=pP.cons
    simp only [] at g2 g3
    have yP:=zU.ld
    have dp:fZ T (i+(wB p l).length)=l:=by rw [fJ g1];simp [jj,g2,g3,tn h1 h2,M9]
    obtain⟨g,t,r1,r2,r3,r4⟩:=ihM p (by omega) (by omega) (.inr (by omega)) hp d i (by omega) (fun _=>by omega) hD vk (by omega)
    have hlt:i+(wB p l).length<T.length:=(List.getElem?_eq_some_iff.1 g1).1
    obtain⟨g,rfl⟩:∃g',g=g'+1:=⟨g - 1,by omega⟩
    have bB:i+(wB p l++⟨true,4,eJ op⟩::ldK (wB q (l+1))).length=i+(wB p l).length+1+(wB q (l+1)).length:=by
     simp only [List.length_append,List.length_cons,eK];omega
    rw [bB] at ho ⊢
    obtain⟨t2,s1,s2,s3⟩:=mx (ih q (by omega) hq) hq (least:=l+1) (L:=l+1) (d:=d) (by omega) hD yP (by omega) (by omega)
    refine⟨g,.nd 10 [t,.lf (i+(wB p l).length),t2],?_,by omega,rfl,DD h1 h2 g1 g3 r3 s2 r4 s3⟩
    rw [r1]
    show rwT T (cR T l) _ (g+1) _=_
    conv=>lhs;unfold rwT
    rw [VJ hl h1 h2 M9 g1 g2 g3,aU g1 (by rw [g2];decide)]
    simp only [s1,if_true]
    simp
   ·have e:wB a l=wB a (l+1):=by
     unfold wB gI
     by_cases h:aV a.op<l
     ·rw [if_pos h,if_pos (by omega)]
     ·rw [if_neg h,if_neg (by omega)]
    rw [e] at hm ho ⊢
    have hN:bw a≤N:=by rcases hor with h | h;exact absurd h hlev;exact h
    obtain⟨t,s1,s2,s3⟩:=mx (ih a hN hF) hF (least:=l+1) (L:=l+1) (d:=d) (pN hlev) hD hm (by omega) (by omega)
    refine⟨_,t,?_,Nat.le_refl _,s2,s3⟩
    rw [MP hl,s1]
    rfl
end
theorem AY {f:Bool} {T:List Tok} {D d:Nat} (hD:d≤D):∀(ks:List Sx) (a:Sx) (i k g:Nat) (pre:List Tr),k+ks.length≤8→(∀y,y∈a::ks→PaB f T D y∧2*bw y≤d)→MtK T i (cQ ((a::ks).map tkB))→T.length - (i+(tkB a).length)+1≤g→i+(cQ ((a::ks).map tkB)).length<T.length→isQ T [44] (sI f (i+(cQ ((a::ks).map tkB)).length))=false→fZ T (i+(cQ ((a::ks).map tkB)).length)=0→
  ∃ts:List Tr,bk T (pf T D (D - d) (nxT T D d) 0) g k (pre++(pf T D (D - d) (nxT T D d) 0 (sI f i)).1,(pf T D (D - d) (nxT T D d) 0 (sI f i)).2)=(pre++ts,sI f (i+(cQ ((a::ks).map tkB)).length))∧iM (bR T ts)=gu (a::ks)∧aX ts=aX ts
 | [],a,i,k,g,pre,hk,hp,hm,hg,hlt,oS,ho=>by
   have e:cQ ([a].map tkB)=tkB a:=rfl
   rw [e] at hm hlt oS ho ⊢
   obtain⟨RA,sd⟩:=hp a (by simp)
   obtain⟨t,s1,s2,s3⟩:=RA d i sd hD hm 0 (Nat.zero_le _) (by rw [ho];decide)
   obtain⟨g,rfl⟩:∃g',g=g'+1:=⟨g - 1,by omega⟩
   refine⟨[t],?_,?_,rfl⟩
   ·rw [s1]
    unfold bk
    simp only [oS]
    simp
   ·cases t with
    | lf j=>cases s2
    | nd kk l=>simp [bR,isN,iM,gu,s3]
 | b::ks,a,i,k,g,pre,hk,hp,hm,hg,hlt,oS,ho=>by
   have e:cQ ((a::b::ks).map tkB)=tkB a++⟨false,4,[44]⟩::ldK (cQ ((b::ks).map tkB)):=rfl
   rw [e] at hm hlt oS ho ⊢
   obtain⟨vk,pP⟩:=hm.app
   obtain⟨⟨tok,g1,g2,g3⟩,zU⟩:=pP.cons
   simp only [] at g2 g3
   have yP:=zU.ld
   have bB:i+(tkB a++⟨false,4,[44]⟩::ldK (cQ ((b::ks).map tkB))).length=i+(tkB a).length+1+(cQ ((b::ks).map tkB)).length:=by
    simp only [List.length_append,List.length_cons,eK];omega
   rw [bB] at hlt oS ho ⊢
   obtain⟨RA,sd⟩:=hp a (by simp)
   have hoc:fZ T (i+(tkB a).length)=0:=by rw [fJ g1];simp [jj,g2,g3,qI,vx]
   obtain⟨t,s1,s2,s3⟩:=RA d i sd hD vk 0 (Nat.zero_le _) (by rw [hoc];decide)
   obtain⟨g,rfl⟩:∃g',g=g'+1:=⟨g - 1,by omega⟩
   have qT:k≠8:=by simp at hk;omega
   obtain⟨ts,r1,r2,-⟩:=AY hD ks b (i+(tkB a).length+1) (k+1) g (pre++[t]++[.lf (i+(tkB a).length)]) (by simp at hk;omega) (fun y hy=>hp y (List.mem_cons_of_mem _ hy)) yP (by omega) hlt oS ho
   refine⟨[t]++[.lf (i+(tkB a).length)]++ts,?_,?_,rfl⟩
   ·rw [s1]
    conv=>lhs;unfold bk
    have hq:isQ T [44] (sI f (i+(tkB a).length))=true:=by rw [aS g1];exact zd ⟨.inr g2,g3⟩
    simp only [hq,if_true,aU g1 (show tok.kind≠5 by rw [g2];decide),if_neg qT]
    rw [r1]
    simp
   ·cases t with
    | lf j=>cases s2
    | nd kk l=>simp only [List.cons_append,List.nil_append,bR,isN,if_true,iM,gu,s3];simp [r2,gu,isN]
end Go.Proofs.YtjbgnopnehgbaaaGreatDoor
namespace Go.Proofs.YtjbgnopnehgbaaaGreatDoor
def H41 (A:List Tk):Prop:=∀t,A.head? = some t→t.k=2→t.t≠[41]
theorem FS {A B:List Tk} (h:H41 A) (hA:A≠[]):H41 (A++B):=by
 cases A with
 | nil=>exact absurd rfl hA
 | cons a A=>exact fun t ht=>h t (by simpa using ht)
theorem fN {t:Tk} {l:List Tk} (h:t.k=2→t.t≠[41]):H41 (t::l):=fun u hu hk=>by simp at hu;subst hu;exact h hk
theorem Kt {f:Bool} {x:Sx} (h:Fmx f x):H41 (tkB x):=by
 induction h with
 | lit nu ps h1 h2=>
   have e:tkB (.mk 1 [] [] nu false [] ps) = [⟨false,3,Zd.txtL nu⟩]:=by simp [tkB,dJ]
   rw [e];exact fN (by simp)
 | tru ys ps=>
   have e:tkB (.mk 2 [] [] 0 ys [] ps) = [⟨false,2,if ys then [116,114,117,101] else [102,97,108,115,101]⟩]:=by simp [tkB,dJ]
   rw [e];exact fN (fun _=>by cases ys<;>simp)
 | var nm ps h=>
   have e:tkB (.mk 3 nm [] 0 false [] ps) = [⟨false,1,nm⟩]:=by simp [tkB,dJ]
   rw [e];exact fN (by simp)
 | res ps h=>
   have e:tkB (.mk 4 [] [] 0 false [] ps) = [⟨false,2,[114,101,115]⟩]:=by simp [tkB,dJ]
   rw [e];exact fN (by simp)
 | neg a ps h ih=>rw [uE];exact fN (by simp)
 | not a ps h ih=>rw [uq];exact fN (by simp)
 | bin op a b ps h1 h2 ha hb iha ihb=>
   rw [nM h1 h2]
   obtain⟨⟨t,l,e,-⟩,-⟩:=xH ha (iu (aV op))
   refine FS ?_ (by rw [e];simp)
   unfold wB gI
   split
   ·exact fN (by simp)
   ·exact iha
 | ite a b c ps hf ha hb hc=>rw [uJ];exact fN (by simp)
 | let_ nm a b ps hf hn ha hb=>rw [uT];exact fN (by simp)
 | asr a b ps hf ha hb=>rw [vf];exact fN (by simp)
 | call nm md ks ps hf hn hm hk hks ih=>
   rw [oX]
   unfold cI
   by_cases hmd:md = []
   ·rw [if_pos hmd];exact fN (by simp)
   ·rw [if_neg hmd];exact fN (by simp)
theorem Nz {f:Bool}:∀ {ks:List Sx},(∀a,a∈ks→Fmx f a)→H41 (cQ (ks.map tkB))
 | [],_=>fun t ht=>by simp [cQ] at ht
 | [a],h=>Kt (h a (by simp))
 | a::b::l,h=>by
   obtain⟨⟨t,m,e,-⟩,-⟩:=dw (h a (by simp))
   exact FS (Kt (h a (by simp))) (by rw [e];simp)
theorem ud (T:List Tok):∀a b:List Tr,bR T (a++b)=bR T a++bR T b
 | [],b=>by simp [bR]
 | t::a,b=>by
   simp only [List.cons_append,bR,ud T a b]
   split<;>simp
theorem abp (f:Bool) (T:List Tok) (D:Nat):∀(N:Nat) (x:Sx),bw x≤N→Fmx f x→PaB f T D x:=by
 intro N
 induction N with
 | zero=>intro x h;have:=gz x;omega
 | succ N ih=>
   intro x hN hF
   have down:∀ {d i k l:Nat},l≤8→rZ T f (pf T D (D - d) (nxT T D d) l) i k x→d≤D→(6≤l→isQ T [110,111,116] (sI f i)=false)→(1≤l→BW T f i)→∀L,L≤l→fZ T k<max 1 L→rZ T f (pf T D (D - d) (nxT T D d) L) i k x:=
    fun h8 h hD hn hw L hL ho=>LP hL h8 h ho (by omega) (fun _ h6=>hn h6) hw
   have sr:∀ {i:Nat},1≤aV x.op→MtK T i (tkB x)→BW T f i:=fun h hm=>Xz (dw hF) hm h
   have one:∀ {d i:Nat} {tok:Tok} {t:Tk} {k:Nat},tkB x = [t]→aV x.op=9→d≤D→MtK T i (tkB x)→T[i]? = some tok→(t.t≠[45]∨t.k=3)→(t.k=2→t.t≠[110,111,116])→tok.kind=t.k→tok.text=t.t→t.k≠4→
     (fZ T (i+1)<8→bC T (nxT T D d) (sI f i)=([.nd k [.lf i]],sI f (i+1)))→npE (axT T (.nd k [.lf i]))=npS x→∀L,L≤min 8 (aV x.op)→fZ T (i+(tkB x).length)<max 1 L→rZ T f (pf T D (D - d) (nxT T D d) L) i (i+(tkB x).length) x:=by
    intro d i tok t k e hlev hD hm hk Pt hnot e1 e2 h4 Hj O9 L hL ho
    have hl:(tkB x).length=1:=by rw [e];rfl
    rw [hl] at ho ⊢
    refine down (l:=8) (Nat.le_refl _) ⟨_,?_,rfl,O9⟩ hD (fun _=>?_) (fun _=>sr (by omega) hm) L (by omega) ho
    ·show aL T D _ _ (sI f i)=_
     unfold aL
     rw [aS hk,decide_eq_false]
     ·simpa using Hj (by omega)
     ·rintro⟨a,b⟩
      rw [e1] at a;rw [e2] at b
      rcases Pt with h | h
      ·exact h b
      ·omega
    ·rw [aS hk]
     refine decide_eq_false ?_
     rintro⟨a,b⟩
     rw [e1] at a;rw [e2] at b
     rcases a with a | a
     ·exact hnot a b
     ·exact h4 a
   cases hF with
   | lit nu ps h1 h2=>
     intro d i hd hD hm
     have e:tkB (.mk 1 [] [] nu false [] ps) = [⟨false,3,Zd.txtL nu⟩]:=by simp [tkB,dJ]
     have rO:=hm
     rw [e] at hm
     obtain⟨⟨tok,hk,e1,e2⟩,-⟩:=hm.cons
     simp only [] at e1 e2
     refine one e rfl hD rO hk (.inr rfl) (by simp) e1 e2 (by simp) (k:=15) (fun _=>?_) ?_
     ·unfold bC
      rw [fh hk,e1,aU hk (by rw [e1];decide)]
      simp
     ·obtain⟨o,ho,ha⟩:=sQ (T:=T) (k:=15) (by decide) hk
      rw [ha]
      simp [bJ,ho,e2,npE,iM,npS,gu]
   | tru ys ps=>
     intro d i hd hD hm
     have e:tkB (.mk 2 [] [] 0 ys [] ps) = [⟨false,2,if ys then [116,114,117,101] else [102,97,108,115,101]⟩]:=by simp [tkB,dJ]
     have rO:=hm
     rw [e] at hm
     obtain⟨⟨tok,hk,e1,e2⟩,-⟩:=hm.cons
     simp only [] at e1 e2
     refine one e rfl hD rO hk (.inl (by cases ys<;>simp)) (fun _=>by cases ys<;>simp) e1 e2 (by simp) (k:=16) (fun _=>?_) ?_
     ·unfold bC
      rw [fh hk,aU hk (by rw [e1];decide),aS hk,aS hk,e1,e2]
      cases ys<;>simp
     ·obtain⟨o,ho,ha⟩:=sQ (T:=T) (k:=16) (by decide) hk
      rw [ha]
      cases ys<;>simp [bJ,ho,e2,npE,iM,npS,gu]
   | var nm ps h=>
     intro d i hd hD hm
     have e:tkB (.mk 3 nm [] 0 false [] ps) = [⟨false,1,nm⟩]:=by simp [tkB,dJ]
     have rO:=hm
     rw [e] at hm
     obtain⟨⟨tok,hk,e1,e2⟩,-⟩:=hm.cons
     simp only [] at e1 e2
     have Pt:nm≠[45]:=by
      unfold di at h
      obtain⟨a,r,rfl,ha⟩:=xR (of_decide_eq_true h).1
      intro e
      injection e with e
      exact(uP ha).2 e
     refine one e rfl hD rO hk (.inl Pt) (by simp) e1 e2 (by simp) (k:=14) (fun ho=>?_) ?_
     ·unfold bC
      rw [fh hk,aS hk,aS hk,aS hk,aS hk,e1]
      have q1:isQ T [46] (sI f (i+1))=false:=dN (by intro e;rw [e] at ho;revert ho;decide)
      have q2:isQ T [40] (sI f (i+1))=false:=dN (by intro e;rw [e] at ho;revert ho;decide)
      unfold dq
      rw [aU hk (by rw [e1];decide)]
      simp [q1,q2]
     ·obtain⟨o,ho,ha⟩:=sQ (T:=T) (k:=14) (by decide) hk
      rw [ha]
      simp [bJ,ho,e2,npE,iM,npS,gu]
   | res ps hf=>
     subst hf
     intro d i hd hD hm
     have e:tkB (.mk 4 [] [] 0 false [] ps) = [⟨false,2,[114,101,115]⟩]:=by simp [tkB,dJ]
     have rO:=hm
     rw [e] at hm
     obtain⟨⟨tok,hk,e1,e2⟩,-⟩:=hm.cons
     simp only [] at e1 e2
     refine one e rfl hD rO hk (.inl (by simp)) (by simp) e1 e2 (by simp) (k:=17) (fun _=>?_) ?_
     ·unfold bC
      rw [fh hk,aU hk (by rw [e1];decide),aS hk,aS hk,aS hk,e1,e2]
      simp
     ·obtain⟨o,ho,ha⟩:=sQ (T:=T) (k:=17) (by decide) hk
      rw [ha]
      simp [bJ,npE,iM,npS,gu]
   | neg a ps h=>
     intro d i hd hD hm L hL ho
     have hL8:L≤8:=by omega
     have rO:=hm
     have db:bw (.mk 5 [] [] 0 false [a] ps)=1+(bw a+0):=rfl
     rw [uE] at hm ho ⊢
     obtain⟨⟨tok,hk,e1,e2⟩,pP⟩:=hm.cons
     simp only [] at e1 e2
     obtain⟨d,rfl⟩:∃g,d=g+1:=⟨d - 1,by omega⟩
     have bB:i+((⟨false,4,[45]⟩:Tk)::wB a 9).length=i+1+(wB a 9).length:=by simp;omega
     rw [bB] at ho ⊢
     obtain⟨t,s1,s2,s3⟩:=mx (ih a (by omega) h) h (least:=9) (L:=8) (d:=d) (by omega) (by omega) pP (by omega) (by have:=hL8;omega)
     refine down (l:=8) (Nat.le_refl _) ⟨.nd 11 [.lf i,t],?_,rfl,?_⟩ hD (fun _=>?_) (fun _=>sr (by simp [Sx.op,aV]) rO) L (by omega) ho
     ·have s1:(nxT T D (d+1)).factor (sI f (i+1))=([t],sI f (i+1+(wB a 9).length)):=s1
      show aL T D _ _ (sI f i)=_
      unfold aL fa
      rw [aS hk,zd ⟨.inr e1,e2⟩,aU hk (by rw [e1];decide)]
      simp only [if_true,k8 (T:=T) (D:=D) (show D - (d+1)+1≤D by omega),s1]
      simp
     ·rw [Mj hk s2 s3,e2];simp [unE,npS,gu]
     ·rw [aS hk,e2];simp
   | not a ps h=>
     intro d i hd hD hm L hL ho
     have rO:=hm
     have db:bw (.mk 6 [] [] 0 false [a] ps)=1+(bw a+0):=rfl
     have hL4:L≤4:=by simp [Sx.op,aV] at hL;omega
     rw [uq] at hm ho ⊢
     obtain⟨⟨tok,hk,e1,e2⟩,pP⟩:=hm.cons
     have zU:=pP.ld
     simp only [] at e1 e2
     obtain⟨d,rfl⟩:∃g,d=g+1:=⟨d - 1,by omega⟩
     have bB:i+((⟨false,2,[110,111,116]⟩:Tk)::ldK (wB a 4)).length=i+1+(wB a 4).length:=by simp [eK];omega
     rw [bB] at ho ⊢
     obtain⟨t,s1,s2,s3⟩:=mx (ih a (by omega) h) h (least:=4) (L:=4) (d:=d) (by omega) (by omega) zU (by omega) (by omega)
     refine down (l:=4) (by omega) ⟨.nd 11 [.lf i,t],?_,rfl,?_⟩ hD (fun h=>by omega) (fun _=>sr (by simp [Sx.op,aV]) rO) L hL4 ho
     ·have s1:(nxT T D (d+1)).nots (sI f (i+1))=([t],sI f (i+1+(wB a 4).length)):=s1
      show dL T D _ _ (sI f i)=_
      unfold dL fa
      rw [aS hk,zd ⟨.inl e1,e2⟩,aU hk (by rw [e1];decide)]
      simp only [if_true,k8 (T:=T) (D:=D) (show D - (d+1)+1≤D by omega),s1]
      simp
     ·rw [Mj hk s2 s3,e2];simp [unE,npS,gu]
   | bin op a b ps h1 h2 ha hb=>
     intro d i hd hD hm L hL ho
     have db:bw (.mk op [] [] 0 false [a,b] ps)=1+(bw a+(bw b+0)):=rfl
     have rO:=hm
     have hF:Fmx f (.mk op [] [] 0 false [a,b] ps):=.bin op a b ps h1 h2 ha hb
     have hhd:HdB (aV op) (tkB (.mk op [] [] 0 false [a,b] ps)):=dw hF
     have hL:L≤min 8 (aV op):=hL
     rcases EX h1 h2 with hlev | hlev | hlev | hlev | hlev | hlev
     all_goals try (
      have hl:aV op=7∨aV op=6∨aV op=3∨aV op=2:=by omega
      have ew:wB (.mk op [] [] 0 false [a,b] ps) (aV op)=tkB (.mk op [] [] 0 false [a,b] ps):=by unfold wB gI;exact if_neg (Nat.lt_irrefl _)
      obtain⟨f,t,r1,r2,r3,r4⟩:=Vt (T:=T) (D:=D) (N:=N) hl (fun y hy hf=>ih y hy hf) (N+1) _ hN (Nat.le_refl _) (.inl rfl) hF d i hd (fun h=>absurd rfl h) hD (by rw [ew];exact hm) (by rw [ew];omega)
      rw [ew] at r1 r2
      refine down (l:=aV op) (by omega) ⟨t,?_,r3,r4⟩ hD (fun h6=>EF hhd.1 hm (by omega)) (fun _=>sr (show 1≤aV op by omega) rO) L (by omega) ho
      rw [r1]
      exact F4 (by omega) (KJ hl (by omega))
      done)
     ·
      have zX:=Re h1 h2 hlev
      have hnq:=EF (c:=f) hhd.1 hm (by omega)
      rw [nM h1 h2,hlev,show iu 5=6 from rfl,show iT 5=6 from rfl] at hm ho ⊢
      obtain⟨vk,pP⟩:=hm.app
      obtain⟨⟨tok,g1,g2,g3⟩,zU⟩:=pP.cons
      simp only [] at g2 g3
      have yP:=zU.ld
      have dp:fZ T (i+(wB a 6).length)=5:=by rw [fJ g1];simp [jj,g2,g3,tn h1 h2,hlev]
      have bB:i+(wB a 6++⟨true,4,eJ op⟩::ldK (wB b 6)).length=i+(wB a 6).length+1+(wB b 6).length:=by
       simp only [List.length_append,List.length_cons,eK];omega
      rw [bB] at ho ⊢
      obtain⟨ta,s1,s2,s3⟩:=mx (ih a (by omega) ha) ha (least:=6) (L:=6) (d:=d) (by omega) hD vk (by omega) (by omega)
      obtain⟨tb,q1,q2,q3⟩:=mx (ih b (by omega) hb) hb (least:=6) (L:=6) (d:=d) (i:=i+(wB a 6).length+1) (by omega) hD yP (by omega) (by omega)
      refine down (l:=5) (by omega) ⟨.nd 10 [ta,.lf (i+(wB a 6).length),tb],?_,rfl,DD h1 h2 g1 g3 s2 q2 s3 q3⟩ hD (fun h=>by omega) (fun _=>sr (show 1≤aV op by omega) rO) L (by omega) ho
      have s1:cX T D (D - d) (nxT T D d) (sI f i)=([ta],sI f (i+(wB a 6).length)):=s1
      have q1:cX T D (D - d) (nxT T D d) (sI f (i+(wB a 6).length+1))=([tb],sI f (i+(wB a 6).length+1+(wB b 6).length)):=q1
      have hc:fs T (sI f (i+(wB a 6).length))=true:=He zX.1 zX.2 g1 g2 g3
      have hlf:ac T (sI f (i+(wB a 6).length))=([.lf (i+(wB a 6).length)],sI f (i+(wB a 6).length+1)):=aU g1 (by rw [g2];decide)
      show dL T D _ _ (sI f i)=_
      unfold dL
      rw [hnq]
      simp only [s1,hc,hlf,q1]
      simp
     ·
      have h20:=RZ h1 h2 hlev
      subst h20
      rw [nM h1 h2,hlev,show iu 1=2 from rfl,show iT 1=1 from rfl] at hm ho ⊢
      obtain⟨vk,pP⟩:=hm.app
      obtain⟨⟨tok,g1,g2,g3⟩,zU⟩:=pP.cons
      simp only [] at g2 g3
      have yP:=zU.ld
      obtain⟨d,rfl⟩:∃g,d=g+1:=⟨d - 1,by omega⟩
      have dp:fZ T (i+(wB a 2).length)=1:=by rw [fJ g1];simp [jj,g2,g3,tn h1 h2,hlev]
      have bB:i+(wB a 2++⟨true,4,eJ 20⟩::ldK (wB b 1)).length=i+(wB a 2).length+1+(wB b 1).length:=by
       simp only [List.length_append,List.length_cons,eK];omega
      rw [bB] at ho ⊢
      obtain⟨ta,s1,s2,s3⟩:=mx (ih a (by omega) ha) ha (least:=2) (L:=2) (d:=d+1) (by omega) hD vk (by omega) (by omega)
      obtain⟨tb,q1,q2,q3⟩:=mx (ih b (by omega) hb) hb (least:=1) (L:=1) (d:=d) (i:=i+(wB a 2).length+1) (by omega) (by omega) yP (by omega) (by omega)
      refine down (l:=1) (by omega) ⟨.nd 10 [ta,.lf (i+(wB a 2).length),tb],?_,rfl,DD h1 h2 g1 g3 s2 q2 s3 q3⟩ hD (fun h=>by omega) (fun _=>sr (show 1≤aV 20 by decide) rO) L (by omega) ho
      have s1:orT T D (D - (d+1)) (nxT T D (d+1)) (sI f i)=([ta],sI f (i+(wB a 2).length)):=s1
      have q1:(nxT T D (d+1)).formula (sI f (i+(wB a 2).length+1))=([tb],sI f (i+(wB a 2).length+1+(wB b 1).length)):=q1
      have hc:isQ T [61,62] (sI f (i+(wB a 2).length))=true:=by rw [aS g1];exact zd ⟨.inr g2,g3⟩
      have hlf:ac T (sI f (i+(wB a 2).length))=([.lf (i+(wB a 2).length)],sI f (i+(wB a 2).length+1)):=aU g1 (by rw [g2];decide)
      show ay T D _ _ (sI f i)=_
      unfold ay
      simp only [s1,hc,hlf,k8 (T:=T) (D:=D) (show D - (d+1)+1≤D by omega),q1]
      simp
   | ite a b c ps hf ha hb hc=>
     subst hf
     intro d i hd hD hm L hL ho
     have db:bw (.mk 21 [] [] 0 false [a,b,c] ps)=1+(bw a+(bw b+(bw c+0))):=rfl
     obtain rfl:L=0:=by simp [Sx.op,aV] at hL;omega
     rw [uJ] at hm ho ⊢
     obtain⟨⟨t1,g1,g2,g3⟩,vk⟩:=hm.cons
     obtain⟨pP,zU⟩:=vk.app
     have pP:=pP.ld
     rw [eK] at zU
     obtain⟨⟨t2,g4,g5,g6⟩,yP⟩:=zU.cons
     obtain⟨Ad,OX⟩:=yP.app
     have Ad:=Ad.ld
     rw [eK] at OX
     obtain⟨⟨t3,g7,g8,g9⟩,KM⟩:=OX.cons
     have KM:=KM.ld
     simp only [] at g2 g3 g5 g6 g8 g9
     obtain⟨d,rfl⟩:∃g,d=g+1:=⟨d - 1,by omega⟩
     have bB:i+((⟨false,2,[105,102]⟩:Tk)::(ldK (tkB a)++⟨true,2,[116,104,101,110]⟩::(ldK (tkB b)++⟨true,2,[101,108,115,101]⟩::ldK (tkB c)))).length=i+1+(tkB a).length+1+(tkB b).length+1+(tkB c).length:=by
      simp only [List.length_append,List.length_cons,eK];omega
     rw [bB] at ho ⊢
     have o1:fZ T (i+1+(tkB a).length)=0:=by rw [fJ g4];simp [jj,g5,g6,qI,vx]
     have o2:fZ T (i+1+(tkB a).length+1+(tkB b).length)=0:=by rw [fJ g7];simp [jj,g8,g9,qI,vx]
     obtain⟨ta,a1,a2,a3⟩:=ih a (by omega) ha d (i+1) (by omega) (by omega) pP 0 (Nat.zero_le _) (by omega)
     obtain⟨tb,b1,b2,b3⟩:=ih b (by omega) hb d (i+1+(tkB a).length+1) (by omega) (by omega) Ad 0 (Nat.zero_le _) (by omega)
     obtain⟨tc,c1,c2,c3⟩:=ih c (by omega) hc d (i+1+(tkB a).length+1+(tkB b).length+1) (by omega) (by omega) KM 0 (Nat.zero_le _) (by omega)
     have a1:(nxT T D (d+1)).expr (sI false (i+1))=([ta],sI false (i+1+(tkB a).length)):=a1
     have b1:(nxT T D (d+1)).expr (sI false (i+1+(tkB a).length+1))=([tb],sI false (i+1+(tkB a).length+1+(tkB b).length)):=b1
     have c1:(nxT T D (d+1)).expr (sI false (i+1+(tkB a).length+1+(tkB b).length+1))=([tc],sI false (i+1+(tkB a).length+1+(tkB b).length+1+(tkB c).length)):=c1
     refine⟨.nd 8 [.lf i,ta,.lf (i+1+(tkB a).length),tb,.lf (i+1+(tkB a).length+1+(tkB b).length),tc],?_,rfl,?_⟩
     ·have q1:isQ T [108,101,116] (sI false i)=false:=by rw [aS g1,g3];simp
      have q2:isQ T [105,102] (sI false i)=true:=by rw [aS g1];exact zd ⟨.inl g2,g3⟩
      have q3:isQ T [116,104,101,110] (sI false (i+1+(tkB a).length))=true:=by rw [aS g4];exact zd ⟨.inl g5,g6⟩
      have q4:isQ T [101,108,115,101] (sI false (i+1+(tkB a).length+1+(tkB b).length))=true:=by rw [aS g7];exact zd ⟨.inl g8,g9⟩
      show cP T D _ _ (sI false i)=_
      unfold cP
      simp only [k8 (T:=T) (D:=D) (show D - (d+1)≤D by omega),q1,q2,↓reduceIte]
      unfold ifT aj
      simp only [aU g1 (show t1.kind≠5 by rw [g2];decide),a1,q3,aU g4 (show t2.kind≠5 by rw [g5];decide),b1,q4,aU g7 (show t3.kind≠5 by rw [g8];decide),c1,↓reduceIte]
      simp
     ·rw [li (by decide)]
      cases ta with
      | lf j=>cases a2
      | nd ka la=>cases tb with
        | lf j=>cases b2
        | nd kb lb=>cases tc with
          | lf j=>cases c2
          | nd kc lc=>simp [bJ,bR,isN,npE,iM,npS,gu,a3,b3,c3]
   | let_ nm a b ps hf hn ha hb=>
     subst hf
     intro d i hd hD hm L hL ho
     have db:bw (.mk 22 nm [] 0 false [a,b] ps)=1+(bw a+(bw b+0)):=rfl
     obtain rfl:L=0:=by simp [Sx.op,aV] at hL;omega
     rw [uT] at hm ho ⊢
     obtain⟨⟨t1,g1,g2,g3⟩,vk⟩:=hm.cons
     obtain⟨⟨t2,g4,g5,g6⟩,pP⟩:=vk.cons
     obtain⟨⟨t3,g7,g8,g9⟩,zU⟩:=pP.cons
     obtain⟨yP,Ad⟩:=zU.app
     have yP:=yP.ld
     rw [eK] at Ad
     obtain⟨⟨t4,H0,Cz,DW⟩,OX⟩:=Ad.cons
     have OX:=OX.ld
     simp only [] at g2 g3 g5 g6 g8 g9 Cz DW
     obtain⟨d,rfl⟩:∃g,d=g+1:=⟨d - 1,by omega⟩
     have bB:i+((⟨false,2,[108,101,116]⟩:Tk)::⟨true,1,nm⟩::⟨true,4,[61]⟩::(ldK (tkB a)++⟨true,2,[105,110]⟩::ldK (tkB b))).length=i+1+1+1+(tkB a).length+1+(tkB b).length:=by
      simp only [List.length_append,List.length_cons,eK];omega
     rw [bB] at ho ⊢
     have o1:fZ T (i+1+1+1+(tkB a).length)=0:=by rw [fJ H0];simp [jj,Cz,DW,qI,vx]
     obtain⟨ta,a1,a2,a3⟩:=ih a (by omega) ha d (i+1+1+1) (by omega) (by omega) yP 0 (Nat.zero_le _) (by omega)
     obtain⟨tb,b1,b2,b3⟩:=ih b (by omega) hb d (i+1+1+1+(tkB a).length+1) (by omega) (by omega) OX 0 (Nat.zero_le _) (by omega)
     have a1:(nxT T D (d+1)).expr (sI false (i+1+1+1))=([ta],sI false (i+1+1+1+(tkB a).length)):=a1
     have b1:(nxT T D (d+1)).expr (sI false (i+1+1+1+(tkB a).length+1))=([tb],sI false (i+1+1+1+(tkB a).length+1+(tkB b).length)):=b1
     refine⟨.nd 7 [.lf i,.lf (i+1),.lf (i+1+1),ta,.lf (i+1+1+1+(tkB a).length),tb],?_,rfl,?_⟩
     ·have q1:isQ T [108,101,116] (sI false i)=true:=by rw [aS g1];exact zd ⟨.inl g2,g3⟩
      have q2:isQ T [61] (sI false (i+1+1))=true:=by rw [aS g7];exact zd ⟨.inr g8,g9⟩
      have q3:isQ T [105,110] (sI false (i+1+1+1+(tkB a).length))=true:=by rw [aS H0];exact zd ⟨.inl Cz,DW⟩
      have q4:aA T 1 (sI false (i+1))=([.lf (i+1)],sI false (i+1+1)):=by unfold aA;rw [fh g4,if_pos ⟨rfl,g5⟩,aU g4 (by rw [g5];decide)]
      show cP T D _ _ (sI false i)=_
      unfold cP
      simp only [k8 (T:=T) (D:=D) (show D - (d+1)≤D by omega),q1]
      unfold nT aj
      simp only [aU g1 (show t1.kind≠5 by rw [g2];decide),q4,q2,aU g7 (show t3.kind≠5 by rw [g8];decide),a1,q3,aU H0 (show t4.kind≠5 by rw [Cz];decide),b1,↓reduceIte]
      simp
     ·rw [li (by decide)]
      cases ta with
      | lf j=>cases a2
      | nd ka la=>cases tb with
        | lf j=>cases b2
        | nd kb lb=>simp [bJ,bR,isN,npE,iM,npS,gu,a3,b3,aX,tkT,g4,g6]
   | asr a b ps hf ha hb=>
     subst hf
     intro d i hd hD hm L hL ho
     have db:bw (.mk 23 [] [] 0 false [a,b] ps)=1+(bw a+(bw b+0)):=rfl
     obtain rfl:L=0:=by simp [Sx.op,aV] at hL;omega
     rw [vf] at hm ho ⊢
     obtain⟨⟨t1,g1,g2,g3⟩,vk⟩:=hm.cons
     obtain⟨yP,Ad⟩:=vk.app
     have yP:=yP.ld
     rw [eK] at Ad
     obtain⟨⟨t4,H0,Cz,DW⟩,OX⟩:=Ad.cons
     have OX:=OX.ld
     simp only [] at g2 g3 Cz DW
     obtain⟨d,rfl⟩:∃g,d=g+1:=⟨d - 1,by omega⟩
     have bB:i+((⟨false,2,[97,115,115,101,114,116]⟩:Tk)::(ldK (tkB a)++⟨true,2,[105,110]⟩::ldK (tkB b))).length=i+1+(tkB a).length+1+(tkB b).length:=by
      simp only [List.length_append,List.length_cons,eK];omega
     rw [bB] at ho ⊢
     have o1:fZ T (i+1+(tkB a).length)=0:=by rw [fJ H0];simp [jj,Cz,DW,qI,vx]
     obtain⟨ta,a1,a2,a3⟩:=ih a (by omega) ha d (i+1) (by omega) (by omega) yP 0 (Nat.zero_le _) (by omega)
     obtain⟨tb,b1,b2,b3⟩:=ih b (by omega) hb d (i+1+(tkB a).length+1) (by omega) (by omega) OX 0 (Nat.zero_le _) (by omega)
     have a1:(nxT T D (d+1)).expr (sI false (i+1))=([ta],sI false (i+1+(tkB a).length)):=a1
     have b1:(nxT T D (d+1)).expr (sI false (i+1+(tkB a).length+1))=([tb],sI false (i+1+(tkB a).length+1+(tkB b).length)):=b1
     refine⟨.nd 9 [.lf i,ta,.lf (i+1+(tkB a).length),tb],?_,rfl,?_⟩
     ·have q1:isQ T [108,101,116] (sI false i)=false:=by rw [aS g1,g3];simp
      have q0:isQ T [105,102] (sI false i)=false:=by rw [aS g1,g3];simp
      have q2:isQ T [97,115,115,101,114,116] (sI false i)=true:=by rw [aS g1];exact zd ⟨.inl g2,g3⟩
      have q3:isQ T [105,110] (sI false (i+1+(tkB a).length))=true:=by rw [aS H0];exact zd ⟨.inl Cz,DW⟩
      show cP T D _ _ (sI false i)=_
      unfold cP
      simp only [k8 (T:=T) (D:=D) (show D - (d+1)≤D by omega),q1,q0,q2]
      unfold ep aj
      simp only [aU g1 (show t1.kind≠5 by rw [g2];decide),a1,q3,aU H0 (show t4.kind≠5 by rw [Cz];decide),b1,↓reduceIte]
      simp
     ·rw [li (by decide)]
      cases ta with
      | lf j=>cases a2
      | nd ka la=>cases tb with
        | lf j=>cases b2
        | nd kb lb=>simp [bJ,bR,isN,npE,iM,npS,gu,a3,b3]
   | call nm md ks ps hf hn hm8 qT hks=>
     subst hf
     intro d i hd hD hm L hL ho
     have rO:=hm
     have db:bw (.mk 24 nm md 0 false ks ps)=1+dh ks:=rfl
     obtain⟨d,rfl⟩:∃g,d=g+1:=⟨d - 1,by omega⟩
     have kP:∀y,y∈ks→PaB false T D y∧2*bw y≤d:=fun y hy=>by
      obtain⟨j,hj⟩:=List.getElem?_of_mem hy
      have h2:=jd hj
      exact⟨ih y (by omega) (hks y hy),by omega⟩
     rw [oX] at hm ho ⊢
     obtain⟨hmh,vM⟩:=hm.app
     obtain⟨QM,hme⟩:=vM.app
     obtain⟨⟨te,e1,e2,e3⟩,-⟩:=hme.cons
     simp only [] at e2 e3
     have bB:i+(cI nm md++(cQ (ks.map tkB)++[(⟨false,4,[41]⟩:Tk)])).length=i+(cI nm md).length+(cQ (ks.map tkB)).length+1:=by
      simp only [List.length_append,List.length_cons,List.length_nil];omega
     rw [bB] at ho ⊢
     have aaI:∃(pre:List Tr) (tok:Tok),T[i]? = some tok∧tok.kind=1∧(isQ T [46] (sI false (i+1))=true∨isQ T [40] (sI false (i+1))=true)∧bN T (bO T ([.lf i],sI false (i+1)))=(pre,sI false (i+(cI nm md).length))∧bR T pre = []∧
       ∀rest:List Tr,npE (bJ 13 (fun j=>tkT T ((aX (pre++rest)).getD j T.length)) (bR T rest))=.mk 24 nm md [] false (iM (bR T rest)) 0:=by
      by_cases hmd:md = []
      ·subst hmd
       have eh:cI nm [] = [⟨false,1,nm⟩,⟨false,4,[40]⟩]:=by simp [cI]
       rw [eh] at hmh ⊢
       obtain⟨⟨t1,g1,g2,g3⟩,vk⟩:=hmh.cons
       obtain⟨⟨t2,g4,g5,g6⟩,-⟩:=vk.cons
       simp only [] at g2 g3 g5 g6
       have q1:isQ T [46] (sI false (i+1))=false:=by rw [aS g4,g6];simp
       have q2:isQ T [40] (sI false (i+1))=true:=by rw [aS g4];exact zd ⟨.inr g5,g6⟩
       refine⟨[.lf i,.lf (i+1)],t1,g1,g2,.inr q2,?_,by simp [bR,isN],fun rest=>?_⟩
       ·unfold bO bN aj
        simp only [q1,q2,aU g4 (show t2.kind≠5 by rw [g5];decide),Bool.false_eq_true,if_false,↓reduceIte]
        simp
       ·simp [bJ,aX,tkT,g1,g3,g4,g6,npE]
      ·have eh:cI nm md = [⟨false,1,md⟩,⟨false,4,[46]⟩,⟨false,1,nm⟩,⟨false,4,[40]⟩]:=by simp [cI,hmd]
       rw [eh] at hmh ⊢
       obtain⟨⟨t1,g1,g2,g3⟩,vk⟩:=hmh.cons
       obtain⟨⟨t2,g4,g5,g6⟩,pP⟩:=vk.cons
       obtain⟨⟨t3,g7,g8,g9⟩,zU⟩:=pP.cons
       obtain⟨⟨t4,H0,Cz,DW⟩,-⟩:=zU.cons
       simp only [] at g2 g3 g5 g6 g8 g9 Cz DW
       have q1:isQ T [46] (sI false (i+1))=true:=by rw [aS g4];exact zd ⟨.inr g5,g6⟩
       have q2:isQ T [40] (sI false (i+1+1+1))=true:=by rw [aS H0];exact zd ⟨.inr Cz,DW⟩
       have q4:aA T 1 (sI false (i+1+1))=([.lf (i+1+1)],sI false (i+1+1+1)):=by unfold aA;rw [fh g7,if_pos ⟨rfl,g8⟩,aU g7 (by rw [g8];decide)]
       refine⟨[.lf i,.lf (i+1),.lf (i+1+1),.lf (i+1+1+1)],t1,g1,g2,.inl q1,?_,by simp [bR,isN],fun rest=>?_⟩
       ·unfold bO bN aj
        simp only [q1,aU g4 (show t2.kind≠5 by rw [g5];decide),q4,q2,aU H0 (show t4.kind≠5 by rw [Cz];decide),if_true]
        simp
       ·simp [bJ,aX,tkT,g1,g3,g4,g6,g7,g9,npE]
     obtain⟨pre,tok,g1,g2,aev,og,afp,O9⟩:=aaI
     have wH:isQ T [41] (sI false (i+(cI nm md).length+(cQ (ks.map tkB)).length))=true:=by rw [aS e1];exact zd ⟨.inr e2,e3⟩
     have hlt:=(List.getElem?_eq_some_iff.1 e1).1
     have Ui:∃ts,bG T (nxT T D (d+1)) (pre,sI false (i+(cI nm md).length))=(pre++ts,sI false (i+(cI nm md).length+(cQ (ks.map tkB)).length))∧iM (bR T ts)=gu ks:=by
      match ks,hks,qT,kP,QM,wH,e1,hlt with
      | [],_,_,_,_,wH,_,_=>
        have e0:i+(cI nm md).length+(cQ (([]:List Sx).map tkB)).length=i+(cI nm md).length:=rfl
        rw [e0] at wH ⊢
        refine⟨[],?_,by simp [bR,iM,gu]⟩
        unfold bG
        rw [wH];simp
      | a::l,hks,qT,kP,QM,wH,e1,hlt=>
        have aba:isQ T [44] (sI false (i+(cI nm md).length+(cQ ((a::l).map tkB)).length))=false:=by rw [aS e1,e3];simp
        have ho0:fZ T (i+(cI nm md).length+(cQ ((a::l).map tkB)).length)=0:=by rw [fJ e1];simp [jj,e2,e3,qI,vx]
        have VB:isQ T [41] (sI false (i+(cI nm md).length))=false:=by
         have h41:=Nz (ks:=a::l) hks
         obtain⟨⟨u,v,hu,h1,h2,h3,h4,h5,h6,h7⟩,-⟩:=EL (ks:=a::l) (by simp) hks
         rw [hu] at QM h41
         obtain⟨⟨k,hk,e4,e5⟩,-⟩:=QM.cons
         rw [aS hk]
         refine decide_eq_false (fun ⟨p,q⟩=>?_)
         rw [e4,e5] at *
         rcases p with p | p
         ·exact h41 u rfl p q
         ·rcases h4 p with e | e<;>rw [e] at q<;>simp at q
        have Uc:fZ T (i+(cI nm md).length+(tkB a).length)=0:=by
         cases l with
         | nil=>exact ho0
         | cons b l=>
           have e:cQ ((a::b::l).map tkB)=tkB a++⟨false,4,[44]⟩::ldK (cQ ((b::l).map tkB)):=rfl
           rw [e] at QM
           obtain⟨⟨k,hk,e4,e5⟩,-⟩:=QM.app.2.cons
           simp only [] at e4 e5
           rw [fJ hk];simp [jj,e4,e5,qI,vx]
        obtain⟨RA,sd⟩:=kP a (by simp)
        have agd:MtK T (i+(cI nm md).length) (tkB a):=by
         cases l with
         | nil=>exact QM
         | cons b l=>exact(show MtK T _ (tkB a++_) from QM).app.1
        obtain⟨ta,a1,-,-⟩:=RA d (i+(cI nm md).length) sd (by omega) agd 0 (Nat.zero_le _) (by rw [Uc];decide)
        have a1':(nxT T D (d+1)).expr (sI false (i+(cI nm md).length))=([ta],sI false (i+(cI nm md).length+(tkB a).length)):=a1
        obtain⟨ts,r1,r2,-⟩:=AY (f:=false) (T:=T) (D:=D) (d:=d) (by omega) l a (i+(cI nm md).length) 1 (T.length - (i+(cI nm md).length+(tkB a).length)+1) [] (by simp at qT;omega) (fun y hy=>kP y hy) QM (Nat.le_refl _) hlt aba ho0
        refine⟨ts,?_,r2⟩
        rw [a1] at r1
        have r1:bk T (nxT T D (d+1)).expr (T.length - (i+(cI nm md).length+(tkB a).length)+1) 1 ([ta],sI false (i+(cI nm md).length+(tkB a).length))=(ts,sI false (i+(cI nm md).length+(cQ ((a::l).map tkB)).length)):=r1
        unfold bG
        rw [VB]
        have hA:jn T (nxT T D (d+1)) (sI false (i+(cI nm md).length))=(ts,sI false (i+(cI nm md).length+(cQ ((a::l).map tkB)).length)):=by
         unfold jn
         rw [a1']
         exact r1
        simp only [hA]
        simp
     obtain⟨ts,hD1,hD2⟩:=Ui
     have hq:∀w,isQ T w (sI false i)=false:=fun w=>by rw [aS g1,g2];simp
     have abw:bR T (ts++[.lf (i+(cI nm md).length+(cQ (ks.map tkB)).length)])=bR T ts:=by rw [ud];simp [bR,isN]
     refine down (l:=8) (Nat.le_refl _) ⟨.nd 13 (pre++(ts++[.lf (i+(cI nm md).length+(cQ (ks.map tkB)).length)])),?_,rfl,?_⟩ hD (fun _=>hq _) (fun _=>sr (by simp [Sx.op,aV]) rO) L (by omega) ho
     ·show aL T D _ _ (sI false i)=_
      unfold aL
      rw [hq]
      simp only [Bool.false_eq_true,if_false]
      unfold bC
      rw [hq,hq,hq,hq,fh g1,g2]
      have zQ:dq T (nxT T D (d+1)) (sI false i)=gF T (bG T (nxT T D (d+1)) (bN T (bO T (ac T (sI false i))))):=by
       unfold dq
       rw [aU g1 (by rw [g2];decide),if_neg]
       rintro(h | ⟨h1,h2⟩)
       ·cases h
       ·rcases aev with h | h
        ·rw [h1] at h;cases h
        ·rw [h2] at h;cases h
      rw [zQ,aU g1 (by rw [g2];decide),og,hD1]
      unfold gF aj
      simp only [wH,aU e1 (show te.kind≠5 by rw [e2];decide),↓reduceIte]
      simp
     ·rw [li (by decide),ud,afp,List.nil_append,O9,abw,hD2]
      simp [npS]
def jy:List UInt8:=[102,117,110,32,102,40,41,58,32,105,110,116,32,61,32]
def xY:List Tk:=[⟨false,2,[102,117,110]⟩,⟨true,1,[102]⟩,⟨false,4,[40]⟩,⟨false,4,[41]⟩,⟨false,4,[58]⟩,⟨true,2,[105,110,116]⟩,⟨true,4,[61]⟩]
def jW (x:Sx):List Tk:=xY++(ldK (tkB x)++[⟨false,4,[59]⟩])
theorem ww {x:Sx} (h:Fmx false x):txK (jW x)=jy++(txS x++[59]):=by
 unfold jW
 rw [dP,dP,dj (dw h).1,K7 h]
 simp [xY,jy,txK,j9]
theorem Kb {x:Sx} (h:Fmx false x):lC (jW x) []:=by
 unfold jW
 have h1:lC (ldK (tkB x)++[⟨false,4,[59]⟩]) []:=fK (jr (aaM h _ (by rw [bS];exact il (by decide)))) ⟨pg (by simp),trivial⟩
 refine fK ?_ h1
 have hld:txK (ldK (tkB x)++[⟨false,4,[59]⟩])++[]=32::(txK (tkB x)++txK [⟨false,4,[59]⟩]):=by
  rw [dP,dj (dw h).1];simp
 rw [hld]
 generalize txK (tkB x)++txK [⟨false,4,[59]⟩]=R
 refine⟨gX (by decide +kernel) iU,mL (by decide +kernel) ?_,pg (by simp),pg (by simp),pg (by simp),gX (by decide +kernel) iU,ok_eq,trivial⟩
 rw [bS];exact il (by decide)
theorem Qs {x:Sx} (h:Fmx false x) (hs:bw x≤90) (hl:(txS x).length≤20000):(dH (jy++(txS x++[59])) 200 false).2.1=0∧∃d,(tw (jy++(txS x++[59])) 200).defs = [d]∧npE d.body=npS x:=by
 have hlb:(jy++(txS x++[59])).length≤20016:=by simp [jy];omega
 obtain⟨L,e,k9,h5,Xv⟩:=FP (jW x) ((jy++(txS x++[59])).length+1) 0 (Kb h) (by rw [ww h];omega)
 rw [ww h] at k9
 have k9:ag (jy++(txS x++[59]))=(L++[e],0,0):=k9
 generalize jy++(txS x++[59])=l at *
 have bB:L.length=(jW x).length:=by have:=congrArg List.length Xv;simpa using this
 obtain⟨T,hT⟩:∃T,L++[e]=T:=⟨_,rfl⟩
 have hm:MtK T 0 (jW x):=fun j t hj=>by
  have h1:(L.map (fun k=>(k.kind,k.text)))[j]? = some (t.k,t.t):=by rw [Xv,List.getElem?_map,hj];rfl
  rw [List.getElem?_map] at h1
  obtain⟨k,hk,Kw⟩:=Option.map_eq_some_iff.1 h1
  injection Kw with h2 h3
  exact⟨k,by rw [Nat.zero_add,←hT,List.getElem?_append_left (List.getElem?_eq_some_iff.1 hk).1];exact hk,h2,h3⟩
 have vm:(jW x).length=7+(tkB x).length+1:=by simp [jW,xY,eK];omega
 have AK:T[7+(tkB x).length+1]? = some e:=by rw [←hT,←vm,←bB];simp
 have hTl:T.length=7+(tkB x).length+2:=by rw [←hT,List.length_append,bB,vm];rfl
 rw [hT] at k9
 clear hT bB Xv
 unfold jW xY at hm
 obtain⟨⟨k0,g0,a0,b0⟩,hm⟩:=hm.cons
 obtain⟨⟨k1,g1,a1,b1⟩,hm⟩:=hm.cons
 obtain⟨⟨k2,g2,a2,b2⟩,hm⟩:=hm.cons
 obtain⟨⟨k3,g3,a3,b3⟩,hm⟩:=hm.cons
 obtain⟨⟨k4,g4,a4,b4⟩,hm⟩:=hm.cons
 obtain⟨⟨k5,g5,a5,b5⟩,hm⟩:=hm.cons
 obtain⟨⟨k6,g6,a6,b6⟩,hm⟩:=hm.cons
 obtain⟨hmx,hme⟩:=(show MtK T 7 (ldK (tkB x)++[⟨false,4,[59]⟩]) from hm).app
 have hmx:=hmx.ld
 rw [eK] at hme
 obtain⟨⟨k7,g7,a7,b7⟩,-⟩:=hme.cons
 simp only [Nat.zero_add,Nat.reduceAdd] at g0 g1 g2 g3 g4 g5 g6 a0 a1 a2 a3 a4 a5 a6 a7 b0 b1 b2 b3 b4 b5 b6 b7
 have ho:fZ T (7+(tkB x).length)=0:=by rw [fJ g7];simp [jj,a7,b7,qI,vx]
 obtain⟨t,s1,s2,s3⟩:=abp false T 200 90 x hs h 199 7 (by omega) (by omega) hmx 0 (Nat.zero_le _) (by rw [ho];decide)
 have s1:(nxT T 200 200).expr (sI false 7)=([t],sI false (7+(tkB x).length)):=s1
 have q:∀ {i:Nat} {k:Tok} {w:List UInt8},T[i]? = some k→(k.kind=2∨k.kind=4)→k.text=w→isQ T w (sI false i)=true:=fun h1 h2 h3=>by rw [aS h1];exact zd ⟨h2,h3⟩
 have qn:∀ {i:Nat} {k:Tok} {w:List UInt8},T[i]? = some k→k.text≠w→isQ T w (sI false i)=false:=fun h1 h3=>by rw [aS h1];exact decide_eq_false (fun h=>h3 h.2)
 have m:∀ {i:Nat} {k:Tok} {w:List UInt8},T[i]? = some k→(k.kind=2∨k.kind=4)→k.text=w→aj T w (sI false i)=([.lf i],sI false (i+1)):=fun h1 h2 h3=>by
  unfold aj;rw [q h1 h2 h3,aU h1 (by omega)];rfl
 have lq:∀ {i:Nat} {k:Tok},T[i]? = some k→k.kind≠5→ac T (sI false i)=([.lf i],sI false (i+1)):=fun h1 h2=>aU h1 h2
 have e0:az=sI false 0:=rfl
 have afB:gO T (nxT T 200 200).expr (sI false 0)=([.nd 3 [.lf 0,.lf 1,.lf 2,.lf 3,.lf 4,.nd 5 [.lf 5],.lf 6,t,.lf (7+(tkB x).length)]],sI false (7+(tkB x).length+1)):=by
  have hA:bW T (sI false 0)=([],sI false 0):=by unfold bW;rw [qn g0 (by rw [b0];decide)];rfl
  have hK:aA T 1 (sI false 1)=([.lf 1],sI false 2):=by unfold aA;rw [fh g1,if_pos ⟨rfl,a1⟩,lq g1 (by omega)]
  have hB:cK T ([],sI false 0)=([.lf 0,.lf 1,.lf 2],sI false 3):=by
   unfold cK
   simp only [m g0 (.inl a0) b0,hK,m g2 (.inr a2) b2]
   rfl
  have hC:du T (nxT T 200 200).expr ([.lf 0,.lf 1,.lf 2],sI false 3)=([.lf 0,.lf 1,.lf 2],sI false 3):=by
   unfold du
   rw [if_neg]
   rintro⟨-,h⟩
   rw [q g3 (.inr a3) b3] at h;cases h
  have hTy:bA T (nxT T 200 200).expr (sI false 4)=([.lf 4,.nd 5 [.lf 5]],sI false 6):=by
   unfold bA fY gR
   rw [m g4 (.inr a4) b4]
   simp only [q g5 (.inl a5) b5,lq g5 (by omega),true_or,if_true]
   rw [qn g6 (by rw [b6];decide)]
   rfl
  have hDD:eL T (nxT T 200 200).expr ([.lf 0,.lf 1,.lf 2],sI false 3)=([.lf 0,.lf 1,.lf 2,.lf 3,.lf 4,.nd 5 [.lf 5],.lf 6,t,.lf (7+(tkB x).length)],sI false (7+(tkB x).length+1)):=by
   unfold eL
   simp only [m g3 (.inr a3) b3,hTy,m g6 (.inr a6) b6,s1,m g7 (.inr a7) b7]
   rfl
  unfold gO
  rw [hA,hB,hC,hDD]
 have Jy:aH T 200 false=([.nd 3 [.lf 0,.lf 1,.lf 2,.lf 3,.lf 4,.nd 5 [.lf 5],.lf 6,t,.lf (7+(tkB x).length)],.lf (7+(tkB x).length+1)],sI false (7+(tkB x).length+1)):=by
  unfold aH
  rw [if_neg (by decide)]
  unfold aW
  have hI:au T ([],az)=(true,([],sI false 0)):=by
   unfold au
   rw [e0]
   have hf:aT T (sI false 0)=T.length+1:=by unfold aT;rfl
   rw [show aT T (([],sI false 0):RT).2=T.length+1 from hf]
   unfold dr
   rw [if_neg]
   rw [show isQ T [105,109,112,111,114,116] (([],sI false 0):RT).2=false from qn g0 (by rw [b0];decide)]
   decide
  have hDf:cj T (nxT T 200 200).expr ([],sI false 0)=(true,([.nd 3 [.lf 0,.lf 1,.lf 2,.lf 3,.lf 4,.nd 5 [.lf 5],.lf 6,t,.lf (7+(tkB x).length)]],sI false (7+(tkB x).length+1))):=by
   unfold cj
   have hf:aT T (sI false 0)=(7+(tkB x).length+1)+1+1:=by unfold aT;show T.length - 0+1=_;omega
   rw [show aT T (([],sI false 0):RT).2=(7+(tkB x).length+1)+1+1 from hf]
   have pN:fF T (sI false 0)=true:=by unfold fF;rw [q g0 (.inl a0) b0];simp
   have YZ:fF T (sI false (7+(tkB x).length+1))=false:=by
    unfold fF
    rw [aS AK,aS AK,h5];simp
   unfold dr
   rw [show fF T (([],sI false 0):RT).2=true from pN,if_pos rfl,if_neg (by decide)]
   have si:fE T (nxT T 200 200).expr ([],sI false 0)=([.nd 3 [.lf 0,.lf 1,.lf 2,.lf 3,.lf 4,.nd 5 [.lf 5],.lf 6,t,.lf (7+(tkB x).length)]],sI false (7+(tkB x).length+1)):=by
    unfold fE
    simp only [afB]
    rfl
   rw [si]
   unfold dr
   rw [if_neg]
   rw [show fF T (([.nd 3 [.lf 0,.lf 1,.lf 2,.lf 3,.lf 4,.nd 5 [.lf 5],.lf 6,t,.lf (7+(tkB x).length)]],sI false (7+(tkB x).length+1)):RT).2=false from YZ]
   decide
  have hK5:aA T 5 (sI false (7+(tkB x).length+1))=([.lf (7+(tkB x).length+1)],sI false (7+(tkB x).length+1)):=by
   unfold aA
   rw [fh AK,if_pos ⟨rfl,h5⟩]
   unfold ac aI
   rw [fh AK,if_pos h5]
  rw [hI]
  simp only [hDf,hK5]
  simp
 have hq:(wT T 200 false).2=sI false (7+(tkB x).length+1):=by rw [(My _ _ _).1,Jy]
 constructor
 ·unfold dH
  rw [if_neg (by omega)]
  unfold t8
  rw [if_neg (by omega),k9]
  simp only [ne_eq,not_true,if_false]
  show(Qy (wT T 200 false)).2.1=0
  unfold Qy
  rw [hq]
  rfl
 ·unfold tw
  rw [k9]
  show ∃d,(cO T (aH T 200 false).1).defs = [d]∧_
  rw [Jy]
  exact⟨_,rfl,s3⟩
end Go.Proofs.YtjbgnopnehgbaaaGreatDoor
