import Derived.Test.YtljcljipppjnoaaGreatDoorJA18
import Derived.Deep.RegionLaw
import Derived.Deep.RegionHeld3
import Derived.Deep.AppendLies
namespace Go.Proofs.YtljcljipppjnoaaGreatDoor
open Go.RowKit
structure YAt (br bt bl bn:Nat) (acc:List Ev) (sp:Bool) (n:Int) (O:Nat→Prop) (W:World):Prop where
  right:W.heap[br]?=some (.cells #[.bool true] 4 (0,0))
  stop:W.heap[bt]?=some (.cells #[.bool sp] 4 (0,0))
  num:W.heap[bn]?=some (.cells #[.int .i64 n] 3 (0,0))
  lst:∃ v,W.heap[bl]?=some (.cells #[v] 22 (0,0))∧W.ownsRow 0 39 4 v acc.length (evCs acc)∧∀ x,v.ownBlock=some x→O x
  own:O br∧O bt∧O bl∧O bn
  ne:br ≠ bt
  lt:∀ x,O x→x < W.heap.size
theorem YAt.keep {br bt bl bn:Nat} {acc:List Ev} {sp:Bool} {n:Int} {O:Nat→Prop} {W w':World} (h:YAt br bt bl bn acc sp n O W) (hk:∀ x,O x→w'.heap[x]?=W.heap[x]?) (hz:W.heap.size≤w'.heap.size):YAt br bt bl bn acc sp n O w':=by
  obtain ⟨v,l1,l2,l3⟩:=h.lst
  refine ⟨(hk _ h.own.1).trans h.right,(hk _ h.own.2.1).trans h.stop,(hk _ h.own.2.2.2).trans h.num,⟨v,(hk _ h.own.2.2.1).trans l1,⟨l2.1,?_⟩,l3⟩,h.own,h.ne,fun x hx=>Nat.lt_of_lt_of_le (h.lt x hx) hz⟩
  rcases l2.2 with h0 | ⟨g,cap,cur,hv,hg,hh,r⟩
  · exact Or.inl h0
  · exact Or.inr ⟨g,cap,cur,hv,hg,(hk g (l3 g (by rw [hv];rfl))).trans hh,r⟩
set_option maxRecDepth 100000 in
set_option maxHeartbeats 2000000 in
theorem yield_any (br bt bl bn:Nat) (acc:List Ev) (ev:Ev) (n:Int) (O:Nat→Prop) (W:World) (h:YAt br bt bl bn acc false n O W) (hlen:acc.length < 5000) :
    Calls Tryz.prog 72 #[evV ev,.pointer (some ⟨br,0,none⟩),.pointer (some ⟨bt,0,none⟩),.pointer (some ⟨bl,0,none⟩),.pointer (some ⟨bn,0,none⟩)] W fun e w'=>e=.returned (.bool (!decide ((acc.length:Int)+1=n)))∧∃ O',YAt br bt bl bn (acc++[ev]) (decide ((acc.length:Int)+1=n)) n O' w'∧Fp O O' W w':=by
  obtain ⟨j0,hj,hy0,hy1,hy2⟩:=info_parts Tryz.infoPlain
  obtain ⟨h1,h2,h3,⟨v,h4,h5,h6⟩,⟨o1,o2,o3,o4⟩,hne,hlt⟩:=h
  have c1:=cell_of_one h1
  have c2:=cell_of_one h2
  have c3:=cell_of_one h3
  have c4:=cell_of_one h4
  have l1:=hlt _ o1
  have l2:=hlt _ o2
  have l3:=hlt _ o3
  have l4:=hlt _ o4
  have f1:=row_free (i:=0) h1
  have hcE:=fun W=>pevent_any ev.kind ev.level ev.fin ⟨ev.text.toArray⟩ W
  unfold evV
  obtain ⟨wc,hwc⟩:∃ wc,(W.setCell ⟨br,0,none⟩ (.bool true)).alloc (.cells #[.int .i64 ev.kind,.bool ev.fin,.int .i64 ev.level,.string ⟨ev.text.toArray⟩] 92)=wc:=⟨_,rfl⟩
  have nl:bl ≠ br:=fun e=>by
    rw [e,h1] at h4
    injection h4 with h4
    injection h4 with _ h4 _
    exact absurd h4 (by decide)
  have nn:bn ≠ br:=fun e=>by
    rw [e,h1] at h3
    injection h3 with h3
    injection h3 with _ h3 _
    exact absurd h3 (by decide)
  have zc:wc.heap.size=W.heap.size+1:=by rw [← hwc];simp
  have fc:∀ x,x < W.heap.size→x ≠ br→wc.heap[x]?=W.heap[x]?:=fun x hx hxb=>by rw [← hwc,Below.heap_alloc _ _ _ (by simpa using hx),Below.heap_setCell _ _ _ _ hxb]
  have x1:wc.heap[br]?=some (.cells #[.bool true] 4 (0,0)):=by
    rw [← hwc,Below.heap_alloc _ _ _ (by simpa using l1)]
    exact set_row h1
  have x2:=(fc bt l2 (Ne.symm hne)).trans h2
  have x3:=(fc bn l4 nn).trans h3
  have x4:=(fc bl l3 nl).trans h4
  have xe:wc.heap[W.heap.size]?=some (.cells #[.int .i64 ev.kind,.bool ev.fin,.int .i64 ev.level,.string ⟨ev.text.toArray⟩] 92 (0,0)):=by
    rw [← hwc]
    have:=heap_alloc_new (W.setCell ⟨br,0,none⟩ (.bool true)) (.cells #[.int .i64 ev.kind,.bool ev.fin,.int .i64 ev.level,.string ⟨ev.text.toArray⟩] 92)
    simpa using this
  have hrow:∀ g,v.ownBlock=some g→g ≠ br∧g < W.heap.size∧g ≠ bl∧g ≠ bt∧g ≠ bn:=by
    intro g hg
    rcases h5.2 with ⟨h0,_⟩ | ⟨g',cap,cur,hv,_,hh,_⟩
    · rw [h0] at hg;cases hg
    · rw [hv] at hg
      injection hg with hg
      have hg:g'=g:=hg
      subst hg
      refine ⟨fun e=>?_,lt_of_block hh,fun e=>?_,fun e=>?_,fun e=>?_⟩
      · rw [e,h1] at hh
        injection hh with hh
        injection hh with _ hh _
        exact absurd hh (by decide)
      · rw [e,h4] at hh
        injection hh with hh
        injection hh with _ hh _
        exact absurd hh (by decide)
      · rw [e,h2] at hh
        injection hh with hh
        injection hh with _ hh _
        exact absurd hh (by decide)
      · rw [e,h3] at hh
        injection hh with hh
        injection hh with _ hh _
        exact absurd hh (by decide)
  have ow:∀ w1,Below wc.heap.size wc w1→w1.ownsRow 0 39 4 v acc.length (evCs acc):=by
    intro w1 hb
    refine ⟨h5.1,?_⟩
    rcases h5.2 with h0 | ⟨g,cap,cur,hv,hg,hh,r⟩
    · exact Or.inl h0
    · have hg2:=hrow g (by rw [hv];rfl)
      exact Or.inr ⟨g,cap,cur,hv,hg,(hb.block g (by omega)).trans ((fc g hg2.2.1 hg2.1).trans hh),r⟩
  have oc:wc.os=W.os∧wc.tape=W.tape∧wc.output=W.output:=by rw [← hwc];exact ⟨rfl,rfl,rfl⟩
  have FIN:Hid (∀ w1 w2 g' cap' sp,Below wc.heap.size wc w1→w2.ownsRow 0 39 4 (.slice (some ⟨g',0,none⟩) (acc.length+1) cap') (acc.length+1) (evCs acc++evCells ev)→(w1.alloc (.cells (evCells ev).toArray 39)).grownBy w2 v.ownBlock→(v.ownBlock=some g'∨g'=(w1.alloc (.cells (evCells ev).toArray 39)).heap.size)→g' < w2.heap.size→∃ O',YAt br bt bl bn (acc++[ev]) sp n O' ((w2.setCell ⟨bl,0,none⟩ (.slice (some ⟨g',0,none⟩) (acc.length+1) cap')).setCell ⟨bt,0,none⟩ (.bool sp))∧Fp O O' W ((w2.setCell ⟨bl,0,none⟩ (.slice (some ⟨g',0,none⟩) (acc.length+1) cap')).setCell ⟨bt,0,none⟩ (.bool sp))):=by
    intro w1 w2 g' cap' sp B1 own2 grow2 at2 lt2
    obtain ⟨X,hX⟩:∃ X,(w2.setCell ⟨bl,0,none⟩ (.slice (some ⟨g',0,none⟩) (acc.length+1) cap')).setCell ⟨bt,0,none⟩ (.bool sp)=X:=⟨_,rfl⟩
    have nt:bt ≠ bl:=fun e=>by
      rw [e,h4] at h2
      injection h2 with h2
      injection h2 with _ h2 _
      exact absurd h2 (by decide)
    have nt2:bn ≠ bt:=fun e=>by
      rw [e,h2] at h3
      injection h3 with h3
      injection h3 with _ h3 _
      exact absurd h3 (by decide)
    have nt3:bn ≠ bl:=fun e=>by
      rw [e,h4] at h3
      injection h3 with h3
      injection h3 with _ h3 _
      exact absurd h3 (by decide)
    have b1z:=B1.size
    have g2z:=grow2.size
    rw [World.size_alloc] at g2z at2
    have fr2:∀ x,x < wc.heap.size→some x ≠ v.ownBlock→w2.heap[x]?=wc.heap[x]?:=fun x hx hr=>(grow2.block x (by rw [World.size_alloc];omega) hr).trans ((Below.heap_alloc _ _ _ (by omega)).trans (B1.block x hx))
    have zX:X.heap.size=w2.heap.size:=by rw [← hX];simp
    have fX:∀ x,x ≠ bl→x ≠ bt→X.heap[x]?=w2.heap[x]?:=fun x n1 n2=>by rw [← hX,Below.heap_setCell _ _ _ _ n2,Below.heap_setCell _ _ _ _ n1]
    have hg:g' ≠ bl∧g' ≠ bt:=by
      rcases at2 with h | h
      · have:=hrow g' h
        omega
      · omega
    have oX:X.os=w2.os∧X.tape=w2.tape∧X.output=w2.output:=by rw [← hX];exact ⟨rfl,rfl,rfl⟩
    have r1:some br ≠ v.ownBlock:=fun e=>(hrow br e.symm).1 rfl
    have r2:some bt ≠ v.ownBlock:=fun e=>(hrow bt e.symm).2.2.2.1 rfl
    have r3:some bl ≠ v.ownBlock:=fun e=>(hrow bl e.symm).2.2.1 rfl
    have r4:some bn ≠ v.ownBlock:=fun e=>(hrow bn e.symm).2.2.2.2 rfl
    have y2:X.heap[bt]?=some (.cells #[.bool sp] 4 (0,0)):=by
      rw [← hX]
      refine set_row (cur:=#[.bool false]) ?_
      rw [Below.heap_setCell _ _ _ _ nt]
      exact (fr2 bt (by omega) r2).trans x2
    have y4:X.heap[bl]?=some (.cells #[.slice (some ⟨g',0,none⟩) (acc.length+1) cap'] 22 (0,0)):=by
      rw [← hX,Below.heap_setCell _ _ _ _ (Ne.symm nt)]
      exact set_row (cur:=#[v]) ((fr2 bl (by omega) r3).trans x4)
    have ea:evCs (acc++[ev])=evCs acc++evCells ev:=by rw [evCs_append,evCs_one]
    have el:(acc++[ev]).length=acc.length+1:=by simp
    rw [hX]
    refine ⟨fun x=>O x∨(W.heap.size≤x∧x < X.heap.size),⟨(fX br (Ne.symm nl) hne).trans ((fr2 br (by omega) r1).trans x1),y2,(fX bn nt3 nt2).trans ((fr2 bn (by omega) r4).trans x3),⟨_,y4,⟨?_,?_⟩,fun x hx=>?_⟩,⟨Or.inl o1,Or.inl o2,Or.inl o3,Or.inl o4⟩,hne,fun x hx=>?_⟩,⟨?_,?_,?_,by omega,fun x hx ho=>?_,fun x hx=>hx.imp id And.left⟩⟩
    · rw [ea,el]
      exact own2.1
    · rw [ea,el]
      rcases own2.2 with h0 | ⟨g,cap,cur,hv,hg0,hh,r⟩
      · exact Or.inl h0
      · have e:g'=g:=by injection hv with hv _ _;injection hv with hv;injection hv
        exact Or.inr ⟨g,cap,cur,hv,hg0,by rw [← e];rw [← e] at hh;exact (fX g' hg.1 hg.2).trans hh,r⟩
    · injection hx with hx
      have hx:g'=x:=hx
      subst hx
      rcases at2 with h | h
      · exact Or.inl (h6 g' h)
      · exact Or.inr ⟨by omega,by omega⟩
    · rcases hx with hx | hx
      · have:=hlt x hx
        omega
      · exact hx.2
    · exact oX.1.trans (grow2.os.trans (B1.os.trans oc.1))
    · exact oX.2.1.trans (grow2.tape.trans (B1.tape.trans oc.2.1))
    · exact oX.2.2.trans (grow2.output.trans (B1.output.trans oc.2.2))
    · exact (fX x (fun e=>ho (e ▸ o3)) (fun e=>ho (e ▸ o2))).trans ((fr2 x (by omega) (fun e=>ho (h6 x e.symm))).trans (fc x hx (fun e=>ho (e ▸ o1))))
  have k4:=cell_of_one x4
  have e0:=row_cell (i:=0) xe rfl
  have e1:=row_cell (i:=1) xe rfl
  have e2:=row_cell (i:=2) xe rfl
  have e3:=row_cell (i:=3) xe rfl
  have hne2:∀ b,some b=v.ownBlock→b ≠ br∧b < W.heap.size∧b ≠ bl∧b ≠ bt∧b ≠ bn:=fun b hb=>hrow b hb.symm
  have hD:=(Below.refl wc.heap.size wc).drew
  have HR:Hid (∀ b,some b=v.ownBlock→b ≠ br∧b < W.heap.size∧b ≠ bl∧b ≠ bt∧b ≠ bn):=hne2
  have HOW:Hid _:=ow
  have HX:Hid (wc.heap[bt]?=some (.cells #[.bool false] 4 (0,0))∧wc.heap[bn]?=some (.cells #[.int .i64 n] 3 (0,0))∧wc.heap[bl]?=some (.cells #[v] 22 (0,0))):=⟨x2,x3,x4⟩
  clear h1 h2 h3 h4 h5 h6 hrow fc ow x1 x2 x3 x4 xe oc hne2 c3 c4
  obtain ⟨sp,hsp⟩:∃ sp,decide ((acc.length:Int)+1=n)=sp:=⟨_,rfl⟩
  rw [hsp]
  have HS:Hid (decide ((acc.length:Int)+1=n)=sp):=hsp
  clear hsp
  go_enter Tryz.func72,Tryz.ntmps72
  go_wp2
  clear c1 c2 f1
  go_region_law (first
    | (go_simp;go_at_call 48;refine (hcE _).mono ?_;rintro e w1 ⟨rfl,b1⟩;have B1:Below wc.heap.size wc w1:=hD.trans b1;have y4:=cell_of_one ((B1.block bl (by omega)).trans HX.out.2.2);have q4:bl < w1.heap.size:=(by have:=B1.size;omega);simp only [])
    | (refine step_append_lies _ rfl _ _ 22 rfl 0 39 j0 (.agg #[.int .i64 0,.bool false,.int .i64 0,.string ⟨#[]⟩]) 4 40 Tryz.underlying22 hj hy0 hy1 hy2 rfl (by decide) v acc.length (evCs acc) rfl ((HOW.out w1 B1).alloc _) ⟨w1.heap.size,0,none⟩ 1 1 (evCells ev) rfl rfl (ev_cell _ _ _ (by simp)) (ev_one _) (by decide) (by unfold maxLen;omega) (by omega) (Nat.zero_le _) _ rfl ?_;intro g' cap' w2 own2 grow2 at2 lt2;have FRW:∀ x,x < wc.heap.size→some x ≠ v.ownBlock→w2.heap[x]?=wc.heap[x]?:=(fun x hx hr=>(grow2.block x (by rw [World.size_alloc];have:=B1.size;omega) hr).trans ((Below.heap_alloc _ _ _ (by have:=B1.size;omega)).trans (B1.block x hx)));have z4:=(FRW bl (by omega) (fun e=>(HR.out bl e).2.2.1 rfl)).trans HX.out.2.2;have z2:=(FRW bt (by omega) (fun e=>(HR.out bt e).2.2.2.1 rfl)).trans HX.out.1;have z3:=(FRW bn (by omega) (fun e=>(HR.out bn e).2.2.2.2 rfl)).trans HX.out.2.1;have u4:=cell_of_one z4;have v4:=row_free (i:=0) z4;have u2:=cell_of_one z2;have v2:=row_free (i:=0) z2;have u3:=cell_of_one z3))
  all_goals
    have nt:¬ bt=bl:=fun e=>by
      rw [e,z4] at z2
      injection z2 with z2
      injection z2 with _ z2 _
      exact absurd z2 (by decide)
    have nt2:¬ bn=bl:=fun e=>by
      rw [e,z4] at z3
      injection z3 with z3
      injection z3 with _ z3 _
      exact absurd z3 (by decide)
    have HG:Hid _:=And.intro B1 (And.intro own2 (And.intro grow2 (And.intro at2 lt2)))
    clear own2 grow2 at2 lt2 B1 b1 FRW z2 z3 z4 hcE hD y4 hlt
    cases sp with
    | true =>
      have hn:((acc.length:Int)+1 == n)=true:=by have:=of_decide_eq_true HS.out;simpa using this
      have h5:decide ((5000:Int) < (acc.length:Int)+1)=false:=by simp;omega
      go_wp2
      go_ret
      exact ⟨rfl,FIN.out w1 w2 g' cap' true HG.out.1 HG.out.2.1 HG.out.2.2.1 HG.out.2.2.2.1 HG.out.2.2.2.2⟩
    | false =>
      have hn:((acc.length:Int)+1 == n)=false:=by have:=of_decide_eq_false HS.out;simpa using this
      have h5:decide ((5000:Int) < (acc.length:Int)+1)=false:=by simp;omega
      go_wp2
      go_ret
      exact ⟨rfl,FIN.out w1 w2 g' cap' false HG.out.1 HG.out.2.1 HG.out.2.2.1 HG.out.2.2.2.1 HG.out.2.2.2.2⟩
end Go.Proofs.YtljcljipppjnoaaGreatDoor
