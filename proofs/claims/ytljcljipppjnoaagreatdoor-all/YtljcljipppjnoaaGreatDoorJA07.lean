import Derived.Test.YtljcljipppjnoaaGreatDoorJA06
import Derived.Deep.LoopGhost
namespace Go.Proofs.YtljcljipppjnoaaGreatDoor
open Go.RowKit
def Ends (o:Out) (eL eI:Value) (B:Nat) (e:Ending) (w':World):Prop :=
  match o with
  | .fine s=>e=.returned (.tuple #[.string s,.nilIface])
  | .long=>e=.returned (.tuple #[.string ⟨#[]⟩,eL])
  | .idle=>e=.returned (.tuple #[.string ⟨#[]⟩,eI])
  | .fail k=>∃ (gE gO:Nat) (r:Int),e=.returned (.tuple #[.string ⟨#[]⟩,.iface 134 (.pointer (some ⟨gE,0,none⟩))]) ∧
      w'.heap[gE]?=some (.cells #[.int .i64 k,.iface 133 (.pointer (some ⟨gO,0,none⟩))] 140 (0,0)) ∧
      w'.heap[gO]?=some (.cells #[.int .i64 r] 306 (0,0))∧B≤gE∧B≤gO
theorem Kept.then_below {b:Nat} {u v v':World} (h:Kept b u v) (k:Below u.heap.size v v'):Kept b u v' :=
  ⟨k.os.trans h.os,k.tape.trans h.tape,k.output.trans h.output,Nat.le_trans h.size k.size,fun i hi hb=>(k.block i hi).trans (h.block i hi hb)⟩
theorem SrcAt.below {b B:Nat} {tx:ByteArray} {cv:Value} {fa:Int} {wt:Bool} {rd:Int} {ov:Bool} {w w':World} (h:SrcAt b tx cv fa wt rd ov w) (hk:Below B w w') (hb:b < B):SrcAt b tx cv fa wt rd ov w' :=
  (hk.block b hb).trans h
theorem CutsOK.below {b B:Nat} {cv:Value} {cs:List Int} {w w':World} (h:CutsOK b cv cs w) (hk:Below B w w') (hB:∀ g o n cap,cv=.slice (some ⟨g,o,none⟩) n cap→g < B):CutsOK b cv cs w':=by
  obtain ⟨g,o,cap,hcv,h1,h2,h3,h4,h5⟩:=h
  refine ⟨g,o,cap,hcv,h1,h2,h3,by have:=hk.size;omega,fun i c hi=>?_⟩
  rw [← h5 i c hi]
  exact World.cell?_of_block (hk.block g (hB g o _ cap hcv))
structure Going (w:World) (b:Nat) (fa:Int) (wt:Bool) (o:Out) (n N gk:Nat) (idle:Nat) (acc:ByteArray) (tx:ByteArray) (cv:Value) (cs:List Int) (rd:Nat) (wr:World):Prop where
  has:Has w.heap.size w.heap.size acc wr
  src:SrcAt b tx cv fa wt rd false wr
  cuts:CutsOK b cv cs wr
  old:∀ g o n cap,cv=.slice (some ⟨g,o,none⟩) n cap→g < w.heap.size
  kept:Kept b w wr
  left:gat fa wt gk tx cs rd acc idle=some (o,n)
  small:acc.size≤300
  few:idle≤2
  ts:tx.size≤4611686018427387904
  upto:rd+gk≤N
set_option maxHeartbeats 2000000 in
set_option maxRecDepth 100000 in
theorem all_any (b f:Nat) (tx:ByteArray) (cv:Value) (cs:List Int) (fa:Int) (wt:Bool) (o:Out) (n:Nat) (aL aI:Addr) (w:World) (h:SrcAt b tx cv fa wt 0 false w) (hcs:CutsOK b cv cs w) (hts:tx.size≤4611686018427387904) (hf:f≤1099511627776)
    (hg:gat fa wt f tx cs 0 ByteArray.empty 0=some (o,n)) (hb5:1 ≠ b∧2 ≠ b)
    (hL:w.cell? ⟨1,0,none⟩=some (.iface 292 (.pointer (some aL)))) (hI:w.cell? ⟨2,0,none⟩=some (.iface 292 (.pointer (some aI)))) :
    Calls Tryz.prog 98 #[.iface 84 (.pointer (some ⟨b,0,none⟩))] w fun e w' =>
      Ends o (.iface 292 (.pointer (some aL))) (.iface 292 (.pointer (some aI))) w.heap.size e w'∧(∃ tx' cv' ov',SrcAt b tx' cv' fa wt n ov' w')∧Kept b w w':=by
  have hlt:=h.lt
  have lL:1 < w.heap.size:=by
    rcases Nat.lt_or_ge 1 w.heap.size with h' | h'
    · exact h'
    · simp [World.cell?,Array.getElem?_eq_none h'] at hL
  have lI:2 < w.heap.size:=by
    rcases Nat.lt_or_ge 2 w.heap.size with h' | h'
    · exact h'
    · simp [World.cell?,Array.getElem?_eq_none h'] at hI
  have H0:Hid (Going w b fa wt o n f f 0 ByteArray.empty tx cv cs 0 (w.alloc (.cells #[.pointer none,.slice none 0 0] 191))):=by
    refine ⟨(Lib.IsBuilderF.of (Lib.fresh_isBuilder 191 5 w)),h.alloc _,?_,?_,(Kept.refl b w).alloc _,hg,by simp,by omega,hts,by omega⟩
    · exact hcs.kept (k:=w.heap.size) (fun g h1 _ _=>Below.heap_alloc w _ g h1) (by simp) (fun g o' cap' he=>by obtain ⟨g2,o2,cap2,e2,_,_,_,h4,_⟩:=hcs;rw [e2] at he;simp at he;omega)
    · intro g o' n' cap' he
      obtain ⟨g2,o2,cap2,e2,_,_,_,h4,_⟩:=hcs
      rw [e2] at he;simp at he;omega
  clear h hcs hg hts
  go_enter Tryz.func98,Tryz.ntmps98
  go_wp2
  go_loopg [5] f (fun gk t wr=>∃ (idle:Nat) (acc tx:ByteArray) (cv:Value) (cs:List Int) (rd:Nat),t=.int .i64 idle∧Going w b fa wt o n f gk idle acc tx cv cs rd wr)
  case atStart=>exact ⟨0,_,tx,cv,cs,0,rfl,H0.out⟩
  case round =>
    clear H0
    obtain ⟨idle,acc,tx,cv,cs,rd,rfl,G⟩:=hrel
    have hwr:=G.kept.size
    have hrd:(rd:Int) < 4611686018427387904:=by have:=G.upto;omega
    have hrd0:(0:Int)≤rd:=by omega
    by_cases hfail:(rd:Int)+1=fa
    · have hr:=rd_fail b tx cv fa wt rd false wr G.src hrd0 hrd hfail
      obtain ⟨rfl,rfl⟩:=gat_fail G.left hfail
      have GG:Hid (Going w b fa wt (.fail acc.size) (rd+1) f gk idle acc tx cv cs rd wr):=G
      clear G hfail
      go_wp2_with (go_at_call 118;refine hr.mono ?_)
      rintro e w1 ⟨rfl,r1,r2,r3⟩
      have has1:=GG.out.has.kept r3 hlt
      have hw1:=r3.size
      go_wp2_with (first | (go_at_call 120;refine (has_len _ _ acc w1 has1).mono ?_;rintro e w2 ⟨rfl,rfl⟩) | (go_at_call 119;go_in))
      go_ret2
      refine ⟨⟨_,wr.heap.size+3,rd+1,rfl,heap_new _ _ rfl,(Below.heap_alloc _ _ _ (Array.getElem?_eq_some_iff.1 r2).1).trans r2,by omega,by omega⟩,⟨tx,cv,false,?_⟩,(GG.out.kept.trans r3).alloc _⟩
      rw [show ((rd+1:Nat):Int)=(rd:Int)+1 by omega]
      exact r1.alloc _
    · have hr:=rd_ok b tx cv cs fa wt rd wr G.src G.cuts hrd0 hrd G.ts hfail
      have hla:=@gat_long fa wt gk tx cs rd acc idle o n G.left hfail
      have hfi:=@gat_fine fa wt gk tx cs rd acc idle o n G.left hfail
      have hid:=@gat_idle fa wt gk tx cs rd acc idle o n G.left hfail
      have hon:=@gat_on fa wt gk tx cs rd acc idle o n G.left hfail
      have hmo:=@gat_more fa wt gk tx cs rd acc idle o n G.left hfail
      have hrl:=rdRest_le tx cs
      have hpl:=rdPiece_le tx cs
      obtain ⟨pc,hpc⟩:∃ pc,rdPiece tx cs=pc:=⟨_,rfl⟩
      obtain ⟨dn,hdn⟩:∃ dn,rdDone wt tx cs=dn:=⟨_,rfl⟩
      rw [hpc] at hr hla hfi hid hon hmo hpl
      rw [hdn] at hr hfi hid hon hmo
      have H1:Hid ((300 < acc.size+pc.size→o=.long∧n=rd+1)∧(¬ 300 < acc.size+pc.size→dn=true→o=.fine (acc++pc)∧n=rd+1)):=⟨hla,hfi⟩
      have H2:=And.intro hid (And.intro hon hmo)
      have H3:Hid _:=H2
      have GG:Hid (Going w b fa wt o n f gk idle acc tx cv cs rd wr):=G
      have hsm:=G.small
      have hfw:=G.few
      have hts:=G.ts
      clear hla hfi hid hon hmo H2 G hfail hpc hdn
      go_wp2_with (go_at_call 118;refine hr.mono ?_)
      rintro e w1 ⟨rfl,⟨cv',ov',r1,r2,r3,r4⟩,r5⟩
      have has1:=GG.out.has.kept r5 hlt
      have hw1:=r5.size
      have hold':∀ g o n cap,cv'=.slice (some ⟨g,o,none⟩) n cap→g < w.heap.size:=by
        intro g o' n' cap' he
        obtain ⟨o2,n2,cap2,e2⟩:=r4 g o' n' cap' he
        exact GG.out.old g o2 n2 cap2 e2
      have HR:Hid (SrcAt b (rdRest tx cs) cv' fa wt (rd+1) ov' w1∧CutsOK b cv' cs.tail w1∧(dn=false→ov'=false)∧(∀ g o n cap,cv'=.slice (some ⟨g,o,none⟩) n cap→g < w.heap.size)∧Kept b wr w1):=⟨r1,r2,r3,hold',r5⟩
      clear r1 r2 r3 r4 r5 hold' hr
      have kk:Kept b w w1:=GG.out.kept.trans HR.out.2.2.2.2
      have hL1:w1.cell? ⟨1,0,none⟩=some (.iface 292 (.pointer (some aL))):=(World.cell?_of_block (kk.block 1 lL hb5.1)).trans hL
      have hI1:w1.cell? ⟨2,0,none⟩=some (.iface 292 (.pointer (some aI))):=(World.cell?_of_block (kk.block 2 lI hb5.2)).trans hI
      have KK:Hid (Kept b w w1):=kk
      clear kk
      by_cases hlong:300 < acc.size+pc.size
      · obtain ⟨rfl,rfl⟩:=H1.out.1 hlong
        have htest:(300:Int) - acc.size < pc.size:=by omega
        go_wp2_with (go_at_call 120;refine (has_len _ _ acc w1 has1).mono ?_;rintro e w2 ⟨rfl,rfl⟩)
        go_quiet (fail)
        go_wp2
        go_ret2
        refine ⟨rfl,⟨rdRest tx cs,cv',ov',?_⟩,KK.out.drewN _⟩
        rw [show ((rd+1:Nat):Int)=(rd:Int)+1 by omega]
        exact HR.out.1.drewN _
      · have htest:(decide ((300:Int) - acc.size < pc.size))=false:=by simp;omega
        have HLO:Hid (¬ 300 < acc.size+pc.size):=hlong
        have hsum:Hid (acc.size+pc.size≤140737488355328):=by show _≤_;omega
        have hcl:=has_len _ _ acc w1 has1
        have hcw:=has_write _ _ acc pc w1 has1 hsum.out (by omega)
        clear hlong
        go_wp2_with (go_at_call 120;refine hcl.mono ?_;rintro e w2 ⟨rfl,hw⟩;rw [hw];clear hw)
        go_wp2_with (go_at_call 121;refine hcw.mono ?_)
        clear hcl hcw
        rintro e w2 ⟨rfl,has2,b2⟩
        have hw2:=b2.size
        cases dn with
        | true =>
          obtain ⟨rfl,rfl⟩:=H1.out.2 HLO.out rfl
          go_wp2_with (go_at_call 106;refine (has_all _ _ (acc++pc) _ has2 (by omega)).mono ?_)
          rintro e w3 ⟨rfl,b3⟩
          go_wp2
          go_ret2
          refine ⟨rfl,⟨rdRest tx cs,cv',ov',?_⟩,(KK.out.then_below b2).then_below b3⟩
          rw [show ((rd+1:Nat):Int)=(rd:Int)+1 by omega]
          exact (HR.out.1.below b2 hlt).below b3 hlt
        | false =>
          have hov:ov'=false:=HR.out.2.2.1 rfl
          have k2:=KK.out.then_below b2
          have s2:=HR.out.1.below b2 hlt
          have c2:=HR.out.2.1.below b2 HR.out.2.2.2.1
          have hI2:w2.cell? ⟨2,0,none⟩=some (.iface 292 (.pointer (some aI))):=(World.cell?_of_block (k2.block 2 lI hb5.2)).trans hI
          have hE:=empty_iff pc
          have S2:Hid (SrcAt b (rdRest tx cs) cv' fa wt (rd+1) ov' w2∧CutsOK b cv' cs.tail w2∧Kept b w w2∧ov'=false):=⟨s2,c2,k2,hov⟩
          have ES:Hid ((acc++pc).size=acc.size+pc.size):=ByteArray.size_append
          clear k2 s2 c2 hov
          by_cases hp0:pc.size=0
          · have hem:pc.toList.isEmpty=true:=by rw [hE];simp [hp0]
            have HP:Hid (pc.size=0):=hp0
            clear hE hp0
            by_cases hi:2 < idle+1
            · obtain ⟨rfl,rfl⟩:=H3.out.1 HLO.out (by decide) HP.out hi
              obtain rfl:idle=2:=by omega
              clear hi
              go_wp2_with (go_at_call 122;go_in)
              go_quiet (fail)
              go_wp2
              go_ret2
              refine ⟨rfl,⟨rdRest tx cs,cv',ov',?_⟩,S2.out.2.2.1.drewN _⟩
              rw [show ((rd+1:Nat):Int)=(rd:Int)+1 by omega]
              exact S2.out.1.drewN _
            · obtain ⟨f',hgk,hg'⟩:=H3.out.2.1 HLO.out (by decide) HP.out hi
              have HG:Hid (gk=f'+1∧gat fa wt f' (rdRest tx cs) cs.tail (rd+1) (acc++pc) (idle+1)=some (o,n)):=⟨hgk,hg'⟩
              have hdi:decide (2 < (idle:Int)+1)=false:=by simp;omega
              have HI:Hid (¬ 2 < idle+1):=hi
              clear hgk hg' hi
              go_wp2_with (go_at_call 122;go_in)
              go_roundg f'
              case measure=>have:=HG.out.1;omega
              case rel =>
                refine ⟨idle+1,acc++pc,rdRest tx cs,cv',cs.tail,rd+1,by go_num,has2,?_,S2.out.2.1,HR.out.2.2.2.1,S2.out.2.2.1,HG.out.2,by rw [ES.out];have:=HLO.out;omega,by have:=HI.out;omega,by omega,by have:=GG.out.upto;have:=HG.out.1;omega⟩
                rw [show ((rd+1:Nat):Int)=(rd:Int)+1 by omega,← S2.out.2.2.2]
                exact S2.out.1
          · have hem:pc.toList.isEmpty=false:=by rw [hE];simp [hp0]
            have HP:Hid (¬ pc.size=0):=hp0
            clear hE hp0
            obtain ⟨f',hgk,hg'⟩:=H3.out.2.2 HLO.out (by decide) HP.out
            have HG:Hid (gk=f'+1∧gat fa wt f' (rdRest tx cs) cs.tail (rd+1) (acc++pc) 0=some (o,n)):=⟨hgk,hg'⟩
            clear hgk hg'
            go_wp2_with (go_at_call 122;go_in)
            go_roundg f'
            case measure=>have:=HG.out.1;omega
            case rel =>
              refine ⟨0,acc++pc,rdRest tx cs,cv',cs.tail,rd+1,rfl,has2,?_,S2.out.2.1,HR.out.2.2.2.1,S2.out.2.2.1,HG.out.2,by rw [ES.out];have:=HLO.out;omega,by omega,by omega,by have:=GG.out.upto;have:=HG.out.1;omega⟩
              rw [show ((rd+1:Nat):Int)=(rd:Int)+1 by omega,← S2.out.2.2.2]
              exact S2.out.1
end Go.Proofs.YtljcljipppjnoaaGreatDoor
