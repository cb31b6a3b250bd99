/- For every row of cells the law on bodies read back of layer 9 answers true: a body's text, in the one definition of a program, is read as just that body; the row reads behind the call as it did. -/
import Derived.Lib.SmallJoins
import Derived.Test.YtjbgnopnehgbaaaGreatDoorP40
set_option linter.unusedVariables false
set_option linter.unusedSimpArgs false
set_option maxRecDepth 100000
namespace Go.Proofs.YtjbgnopnehgbaaaGreatDoor.showBodies
open Go.ChangeShapes Go.WideShapes Go.ChangeAt Go.RowKit Go.ChangeMaps Go.Deep Go.Joins
theorem lifted (os:Os) (started:os.Started) (H:Type) (enc:TypeId×Value→H):
  ReturnsInHanded {} Tryz.checked os 3 .any (fun w args=>(Rows.showBodiesSpec.pre enc Tryz.prog Tryz.f3 [] false w args∧laidMetH Tryz.prog rq w)∧sizedMet enc Tryz.prog Tryz.f3 (OpenSpec.ofChange Rows.showBodiesSpec) false w args)
   (Rows.showBodiesSpec.post enc Tryz.prog Tryz.f3 false true false false):=by
 refine returnsInHanded_of_change_and (C:=Tryz.checked) (X:=fun w _=>laidMetH Tryz.prog rq w) (fun _ _ _ hh h=>h.of_heap hh) own started (by kernel_rfl) Tryz.func3
  (ChangeSpec.witness_shaped (enc:=enc) (C:=Tryz.checked) (os:=os) (X:=fun w _=>laidMetH Tryz.prog rq w) false (World.laidAll Tryz.prog os rq) #[.slice none 0 0] 8 (World.laidAll_os _ _ _)
   (zt os _) (by kernel_rfl) (by kernel_rfl) (by kernel_rfl) (G9 os _)) ?_
 intro W base args ds gs before hval0 hW _ _ hL _
 have Z7:∀(j:Nat) t v,Tryz.f3.params[j]? = some t→args[j]? = some v→Value.okWide Tryz.prog W .any base t v:=hval0
 have hW':=hW
 obtain⟨p,q,hA0,hV,rfl,SX,JA⟩:=hW
 have hA:DataW.TrodAll enc Tryz.prog W 0 (fun _=>true) true Tryz.f3.params.toList args.toList ds p:=hA0
 rw [Tryz.params3] at hA Z7
 obtain⟨v0,vs0,d0,ds0,p0,q0,Ui,rfl,rfl,h0,r0⟩:=trodAll_cons hA
 obtain⟨rfl,rfl,rfl⟩:=trodAll_nil r0
 obtain rfl:args=#[v0]:=by cases args;simp_all
 obtain⟨rfl,rfl⟩:=trodVars_none hV
 obtain⟨pt,nt,ct,rfl⟩:=okWide_slice Tryz.underlying23 (Z7 0 23 v0 rfl rfl)
 have h0k:=h0
 obtain⟨ahZ,hf0⟩:=h0
 have cg:=Ro hL
 clear hA0 hval0
 simp only [List.append_nil,List.nil_append] at hW'
 have aeb:∀y∈p0,y.block<W.heap.size:=fun y hy=>by simpa using hW'.lt y (by simp [hy])
 obtain⟨l,rfl,hT,hk⟩:=BL (w:=W) (v:=pt) (n:=nt) (c:=ct) Tryz.underlying23 Tryz.underlying61 (by kernel_rfl) rfl rfl rfl rfl rfl rfl (by kernel_rfl) (by kernel_rfl) (by kernel_rfl) (by kernel_rfl) (by kernel_rfl) (by kernel_rfl) Tryz.underlying3 Tryz.underlying3 Tryz.underlying9 Tryz.underlying9 Tryz.underlying9 Tryz.underlying4 hf0
 refine(IY l pt ct W hT hk cg.1 cg.2.1 cg.2.2).mono fun e W' ⟨he,hg⟩=>?_
 subst he
 refine⟨_,rfl,_,_,_,[],p0,[],by simpa using hW',?_,?_,?_,(df hg).frame _,fun h=>by cases h⟩
 ·exact trodAll_cons_mk (shut_bool Tryz.underlying4 _) trodAll_mk0
 ·have:=trodAll_cons_mk (Below.trod laidOut (by kernel_rfl) (of_decide_eq_true (by kernel_rfl)) h0k (df hg) aeb) trodAll_mk0
  simp only [List.append_nil,List.nil_append] at this
  exact this
 ·rfl
theorem over:Rows.showBodiesRow.holds Tryz.pinned (OpenSpec.ofChange Rows.showBodiesSpec):=
 OpenClaim.holds_of_wide 3 Tryz.f3 rfl rfl rfl rfl rfl rfl rfl ⟨rfl,rfl,rfl,rfl,rfl⟩ rfl rfl rfl rfl rfl (by kernel_rfl) Tryz.func3 closed
  (of_decide_eq_true (by kernel_rfl)) (by unfold Func.isWrapper;first | (rw [if_pos (by decide +kernel)];kernel_rfl) | (rw [if_neg (by decide +kernel)];exact⟨rfl,rfl⟩))
  (fun os started H enc _=>lifted os started H enc)
theorem proved:Rows.ShowBodiesCardSaid:=
 Claim7.holds_tied_plain_at .later [] [.data,.data,.data,.data,.data,.data,.data,.data,.pinned] true Rows.showBodiesCard.stood.harness false
  over (fun _ h=>by cases h) p1 (fun _ h=>by cases h) showBodies_row_tie rfl ⟨rfl,rfl⟩ p2 rfl
  (fun f fn hf hfn=>by
   obtain rfl:f=3:=Option.some.inj ((show Tryz.prog.funcNamed "touchstone/touchstonelaw09.ShowBodies" = some 3 by kernel_rfl).symm.trans hf) |>.symm
   obtain rfl:fn=Tryz.f3:=(Option.some.inj (Tryz.func3.symm.trans hfn)).symm
   exact⟨p3,fun j t ht=>by
    rw [Tryz.params3] at ht
    have hm:t∈[23]:=by simpa using Array.mem_of_getElem? ht
    have k9:([23].all fun u=>!Tryz.prog.wantsStandIn u)=true:=by kernel_rfl
    exact(show Tryz.prog.wantsStandIn t=false by simpa using List.all_eq_true.1 k9 t hm)⟩)
  p4
end Go.Proofs.YtjbgnopnehgbaaaGreatDoor.showBodies
