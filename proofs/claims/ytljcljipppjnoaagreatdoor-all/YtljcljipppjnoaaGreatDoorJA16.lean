import Derived.Test.YtljcljipppjnoaaGreatDoorJA12
import Derived.Test.YtljcljipppjnoaaGreatDoorJA13
import Derived.Test.YtljcljipppjnoaaGreatDoorJA15
import Derived.Deep.LoopGhost
import Derived.Deep.DeepCutAuto
namespace Go.Proofs.YtljcljipppjnoaaGreatDoor
open Go.RowKit
theorem rest_eq (tx:ByteArray) (cs:List Int):rdRest tx cs=tx.extract (rdPiece tx cs).size tx.size:=by
  cases cs with
  | nil =>
    simp only [rdRest,rdPiece]
    apply ByteArray.ext
    rw [ByteArray.data_extract]
    simp
  | cons c r =>
    have h:=cutN_le tx c
    have hs:(tx.extract 0 (cutN tx c)).size=cutN tx c:=by simp;omega
    simp only [rdRest,rdPiece,hs]
def coming (v:Array Value) (w:World):World:=(w.alloc (.cells v 33)).alloc (.cells #[.string ⟨#[]⟩,.int .i64 0,.int .i64 0,.int .i64 0] 49)
structure Come (fa:Int) (wt:Bool) (o:Out) (n N gk:Nat) (cs0:List Int) (idle:Nat) (acc tx:ByteArray) (rd:Nat):Prop where
  left:gat fa wt gk tx (cs0.drop rd) rd acc idle=some (o,n)
  small:acc.size≤300
  few:idle≤2
  ts:tx.size≤1048576
  upto:rd+gk≤N
structure Mem (w:World) (tx0:ByteArray) (cv:Value) (cs:List Int) (fa:Int) (wt:Bool) (wr:World):Prop where
  inB:wr.heap[w.heap.size]?=some (.cells #[.string tx0,cv,.int .i64 fa,.bool wt] 33 (0,0))
  comeB:wr.heap[w.heap.size+1]?=some (.cells #[.string ⟨#[]⟩,.int .i64 0,.int .i64 0,.int .i64 0] 49 (0,0))
  nums:NumsAt cv cs wr
  below:Below w.heap.size w wr
theorem come_put {w:World} {n:Nat} {a b c d:Value} {t:TypeId} (x y z u:Value) (h:w.heap[n]?=some (.cells #[a,b,c,d] t (0,0))) :
    (w.setCell ⟨n,0,none⟩ x).cell? ⟨n,0,none⟩=some x∧((w.setCell ⟨n,0,none⟩ x).setCell ⟨n,1,none⟩ y).cell? ⟨n,1,none⟩=some y ∧
    (((w.setCell ⟨n,0,none⟩ x).setCell ⟨n,1,none⟩ y).setCell ⟨n,2,none⟩ z).cell? ⟨n,2,none⟩=some z∧((((w.setCell ⟨n,0,none⟩ x).setCell ⟨n,1,none⟩ y).setCell ⟨n,2,none⟩ z).setCell ⟨n,3,none⟩ u).cell? ⟨n,3,none⟩=some u:=by
  have h2:=Joins.block_setCell (i:=0) h x
  have h3:=Joins.block_setCell (i:=1) h2 y
  have h4:=Joins.block_setCell (i:=2) h3 z
  have h5:=Joins.block_setCell (i:=3) h4 u
  exact ⟨by rw [Lib.cell_of_heap h2];rfl,by rw [Lib.cell_of_heap h3];rfl,by rw [Lib.cell_of_heap h4];rfl,by rw [Lib.cell_of_heap h5];rfl⟩
theorem below_put {w wr:World} (n:Nat) (x y z u:Value) (h:Below w.heap.size w wr) (hn:w.heap.size≤n):Below w.heap.size w ((((wr.setCell ⟨n,0,none⟩ x).setCell ⟨n,1,none⟩ y).setCell ⟨n,2,none⟩ z).setCell ⟨n,3,none⟩ u) :=
  (((h.setCell (p:=⟨n,0,none⟩) hn _).setCell (p:=⟨n,1,none⟩) hn _).setCell (p:=⟨n,2,none⟩) hn _).setCell (p:=⟨n,3,none⟩) hn _
theorem reg_kept (s:ByteArray) (tx0:ByteArray) (cv:Value) (cs:List Int) (fa:Int) (wt:Bool) (w wr:World) (hs:s.size≤35184372088832) (M:Mem w tx0 cv cs fa wt wr) :
    Calls Tryz.prog 13 #[.string s] wr fun e w'=>e=.returned (.string ⟨(reg s).toArray⟩) ∧
      w'.cell? ⟨w.heap.size+1,0,none⟩=some (.string ⟨#[]⟩)∧w'.cell? ⟨w.heap.size+1,1,none⟩=some (.int .i64 0)∧w'.cell? ⟨w.heap.size+1,2,none⟩=some (.int .i64 0)∧w'.cell? ⟨w.heap.size+1,3,none⟩=some (.int .i64 0) ∧
      w'.frozen? ⟨w.heap.size+1,0,none⟩=false∧w'.frozen? ⟨w.heap.size+1,1,none⟩=false∧w'.frozen? ⟨w.heap.size+1,2,none⟩=false∧w'.frozen? ⟨w.heap.size+1,3,none⟩=false ∧
      Hid (w'.heap[w.heap.size+1]?=some (.cells #[.string ⟨#[]⟩,.int .i64 0,.int .i64 0,.int .i64 0] 49 (0,0))∧Below w.heap.size w w'):=by
  refine (regular_any s wr hs).mono ?_
  rintro e w' ⟨rfl,hb⟩
  have hc:=(hb.block _ (Array.getElem?_eq_some_iff.1 M.comeB).1).trans M.comeB
  refine ⟨rfl,?_,?_,?_,?_,Lib.frozen_of_heap hc 0,Lib.frozen_of_heap hc 1,Lib.frozen_of_heap hc 2,Lib.frozen_of_heap hc 3,hc,M.below.trans (hb.mono M.below.size)⟩ <;> (rw [Lib.cell_of_heap hc];rfl)
set_option maxHeartbeats 8000000 in
set_option maxRecDepth 100000 in
theorem come_any (f:Nat) (tx:ByteArray) (cv:Value) (cs:List Int) (fa:Int) (wt:Bool) (o:Out) (n:Nat) (w:World) (h:NumsAt cv cs w) (hl:cs.length≤1048576) (hts:tx.size≤1048576) (hf:f≤1099511627776)
    (hg:gat fa wt f tx cs 0 ByteArray.empty 0=some (o,n)) :
    Calls Tryz.prog 24 #[.agg #[.string tx,cv,.int .i64 fa,.bool wt]] w fun e w'=>e=.returned (.agg #[.string (outText o),.int .i64 (outErr o),.int .i64 (outN o),.int .i64 n])∧Below w.heap.size w w':=by
  obtain ⟨ca,n0,cp,hcv⟩:∃ ca n0 cp,cv=.slice ca n0 cp:=by
    rcases h with ⟨_,ca,cap,rfl⟩ | ⟨g,o,cap,rfl,_⟩
    · exact ⟨_,_,_,rfl⟩
    · exact ⟨_,_,_,rfl⟩
  subst hcv
  have hn0:n0=cs.length:=by
    rcases h with ⟨rfl,ca',cap,he⟩ | ⟨g,o,cap,he,_⟩
    · simp at he;simp [he.2.1]
    · simp at he;exact he.2.1
  subst hn0
  have C0:Come fa wt o n f f cs 0 ByteArray.empty tx 0:=⟨by rw [List.drop_zero];exact hg,by simp,by omega,hts,by omega⟩
  have HC:Hid (Come fa wt o n f f cs 0 ByteArray.empty tx 0):=C0
  have HM:Hid (Mem w tx (.slice ca cs.length cp) cs fa wt (coming #[.string tx,.slice ca cs.length cp,.int .i64 fa,.bool wt] w)):=by
    have kb:Below w.heap.size w (coming #[.string tx,.slice ca cs.length cp,.int .i64 fa,.bool wt] w):=((Below.refl _ w).alloc (Nat.le_refl _) _).alloc (by simp) _
    refine ⟨?_,heap_new _ _ (by simp),?_,kb⟩
    · unfold coming
      rw [Below.heap_alloc _ _ _ (by simp)]
      exact heap_new _ _ rfl
    · rcases h with h | ⟨g,o,cap,h1,h2,h3⟩
      · exact Or.inl h
      · refine Or.inr ⟨g,o,cap,h1,by have:=kb.size;omega,fun j c hj=>?_⟩
        rw [← h3 j c hj]
        exact World.cell?_of_block (kb.block g h2)
  have hN:Hid (f≤1099511627776):=hf
  clear C0 hg h hf hts
  generalize hfree:tx=tx0
  rw [hfree] at HM
  subst hfree
  go_enter Tryz.func24,Tryz.ntmps24
  go_wp2
  go_loopg [3,4,5,6] f (fun gk r a i k wr=>∃ (idle:Nat) (acc tx1:ByteArray) (rd:Nat),r=.string tx1∧a=.string acc∧i=.int .i64 idle∧k=.int .i64 rd∧Mem w tx (.slice ca cs.length cp) cs fa wt wr∧Come fa wt o n f gk cs idle acc tx1 rd)
  case atStart=>exact ⟨0,_,tx,0,rfl,rfl,rfl,rfl,HM.out,HC.out⟩
  case round =>
    clear HC HM
    obtain ⟨idle,acc,tx1,rd,rfl,rfl,rfl,rfl,M,C⟩:=hrel
    have c1:wr.cell? ⟨w.heap.size,1,none⟩=some (.slice ca cs.length cp):=by rw [Lib.cell_of_heap M.inB];rfl
    have c2:wr.cell? ⟨w.heap.size,2,none⟩=some (.int .i64 fa):=by rw [Lib.cell_of_heap M.inB];rfl
    have c3:wr.cell? ⟨w.heap.size,3,none⟩=some (.bool wt):=by rw [Lib.cell_of_heap M.inB];rfl
    have d0:wr.cell? ⟨w.heap.size+1,0,none⟩=some (.string ⟨#[]⟩):=by rw [Lib.cell_of_heap M.comeB];rfl
    have d1:wr.cell? ⟨w.heap.size+1,1,none⟩=some (.int .i64 0):=by rw [Lib.cell_of_heap M.comeB];rfl
    have d2:wr.cell? ⟨w.heap.size+1,2,none⟩=some (.int .i64 0):=by rw [Lib.cell_of_heap M.comeB];rfl
    have d3:wr.cell? ⟨w.heap.size+1,3,none⟩=some (.int .i64 0):=by rw [Lib.cell_of_heap M.comeB];rfl
    have z0:=Lib.frozen_of_heap M.comeB 0
    have z1:=Lib.frozen_of_heap M.comeB 1
    have z2:=Lib.frozen_of_heap M.comeB 2
    have z3:=Lib.frozen_of_heap M.comeB 3
    have hrd:rd≤1099511627776:=by have:=C.upto;have:=hN.out;omega
    by_cases hfail:(rd:Int)+1=fa
    · obtain ⟨rfl,rfl⟩:=gat_fail C.left hfail
      have MM:Hid (Mem w tx (.slice ca cs.length cp) cs fa wt wr):=M
      have heq:((rd:Int)+1 == fa)=true:=by simp [hfail]
      have hsm:=C.small
      clear M C hfail
      go_wp2
      obtain ⟨e0,e1,e2,e3⟩:=come_put (.string ⟨#[]⟩) (.int .i64 4) (.int .i64 acc.size) (.int .i64 (rd+1)) MM.out.comeB
      exact bodyPost_ret (v:=.agg #[.string ⟨#[]⟩,.int .i64 4,.int .i64 acc.size,.int .i64 (rd+1)]) (by simp [results,Tryz.results24,go_sem,e0,e1,e2,e3]) rfl ⟨rfl,below_put _ _ _ _ _ MM.out.below (by omega)⟩
    · have heq:((rd:Int)+1 == fa)=false:=by simp [hfail]
      have hla:=@gat_long fa wt gk tx1 (cs.drop rd) rd acc idle o n C.left hfail
      have hfi:=@gat_fine fa wt gk tx1 (cs.drop rd) rd acc idle o n C.left hfail
      have hid:=@gat_idle fa wt gk tx1 (cs.drop rd) rd acc idle o n C.left hfail
      have hon:=@gat_on fa wt gk tx1 (cs.drop rd) rd acc idle o n C.left hfail
      have hmo:=@gat_more fa wt gk tx1 (cs.drop rd) rd acc idle o n C.left hfail
      rw [List.tail_drop] at hon hmo
      have H1:Hid _:=And.intro hla (And.intro hfi (And.intro hid (And.intro hon hmo)))
      have MM:Hid (Mem w tx (.slice ca cs.length cp) cs fa wt wr):=M
      have CC:Hid (Come fa wt o n f gk cs idle acc tx1 rd):=C
      have hsm:=C.small
      have hfw:=C.few
      have hts:=C.ts
      clear M C hfail hla hfi hid hon hmo
      have hE:Hid (tx1.toList.isEmpty=decide (tx1.size=0)):=empty_iff tx1
      go_upto_region 9 with fail
      go_cut [8] (fun d wc=>d=.bool (wt || decide (tx1.size=0))∧wr=wc)
      case first =>
        cases wt with
        | true =>
          go_wp2
          go_meet
          case rel=>exact ⟨rfl,rfl⟩
        | false =>
          by_cases hem:tx1.toList.isEmpty=true
          · go_wp2
            go_meet
            case rel=>rw [← hE.out,hem];exact ⟨rfl,rfl⟩
          · go_wp2
            go_meet
            case rel=>rw [← hE.out,Bool.eq_false_iff.2 hem];exact ⟨rfl,rfl⟩
      case rest =>
        obtain ⟨rfl,rfl⟩:=hcut
        go_upto_if 36 with fail
        go_cut [7,8,9] (fun p d _ wc=>p=.string (rdPiece tx1 (cs.drop rd))∧d=.bool (rdDone wt tx1 (cs.drop rd))∧wr=wc)
        case first =>
          clear hE d0 d1 d2 d3 z0 z1 z2 z3 heq H1 CC
          by_cases hlt:rd < cs.length
          · obtain ⟨c,hc,hdrop⟩:∃ c,cs[rd]?=some c∧cs.drop rd=c :: cs.drop (rd+1):=⟨cs[rd],List.getElem?_eq_getElem hlt,List.drop_eq_getElem_cons hlt⟩
            obtain ⟨g,og,hca,hcell⟩:∃ g og,ca=some ⟨g,og,none⟩∧wr.cell? ⟨g,og+rd,none⟩=some (.int .i64 c):=by
              rcases MM.out.nums with ⟨rfl,_⟩ | ⟨g,og,cap,he,_,h3⟩
              · simp at hlt
              · simp at he
                exact ⟨g,og,he.1,h3 rd c hc⟩
            subst hca
            have HP:Hid (rdPiece tx1 (cs.drop rd)=tx1.extract 0 (cutN tx1 c)∧rdDone wt tx1 (cs.drop rd)=(wt && decide (cutN tx1 c=tx1.size) && decide ((cs.drop (rd+1)).length=0))):=by rw [hdrop];exact ⟨rfl,rfl⟩
            have HL:Hid (decide ((cs.drop (rd+1)).length=0)=((rd:Int)+1 == (cs.length:Int))):=by
              show _=_
              rw [List.length_drop,Bool.eq_iff_iff]
              simp
              omega
            clear hdrop hc MM
            by_cases hlow:c < 0∨(tx1.size:Int) < c
            · have hn0:Hid (cutN tx1 c=0):=by show _=_;simp [cutN,hlow]
              rcases hlow with hl0 | hl0
              all_goals
                cases wt with
                | false =>
                  go_wp2
                  go_meet
                  case rel=>rw [HP.out.1,HP.out.2,hn0.out,ext_none];exact ⟨rfl,rfl,rfl⟩
                | true =>
                  by_cases hz:tx1.size=0
                  · have hz':((0:Int) == (tx1.size:Int))=true:=by simp [hz]
                    have HZ:Hid (tx1.size=0):=hz
                    clear hz
                    go_wp2
                    go_meet
                    case rel =>
                      rw [HP.out.1,HP.out.2,hn0.out,ext_none,HL.out,decide_eq_true HZ.out.symm]
                      exact ⟨rfl,rfl,rfl⟩
                  · have hz':((0:Int) == (tx1.size:Int))=false:=by simp;omega
                    have HZ:Hid (¬ 0=tx1.size):=fun hh=>hz hh.symm
                    clear hz
                    go_wp2
                    go_meet
                    case rel =>
                      rw [HP.out.1,HP.out.2,hn0.out,ext_none,HL.out,decide_eq_false HZ.out]
                      exact ⟨rfl,rfl,rfl⟩
            · obtain ⟨m,hm⟩:∃ m:Nat,c=(m:Int):=⟨c.toNat,by omega⟩
              subst hm
              have hml:m≤tx1.size:=by omega
              have hn0:Hid (cutN tx1 (m:Int)=m):=by show _=_;unfold cutN;rw [if_neg hlow];omega
              clear hlow
              have hc1:¬ ((m:Int) < 0):=by omega
              have hc2:decide ((tx1.size:Int) < (m:Int))=false:=by simp;omega
              cases wt with
              | false =>
                go_wp2
                go_meet
                case rel=>rw [HP.out.1,HP.out.2,hn0.out];exact ⟨rfl,rfl,rfl⟩
              | true =>
                by_cases hz:m=tx1.size
                · have hz':((m:Int) == (tx1.size:Int))=true:=by simp [hz]
                  have HZ:Hid (m=tx1.size):=hz
                  clear hz
                  go_wp2
                  go_meet
                  case rel =>
                    rw [HP.out.1,HP.out.2,hn0.out,HL.out,decide_eq_true HZ.out]
                    exact ⟨rfl,rfl,rfl⟩
                · have hz':((m:Int) == (tx1.size:Int))=false:=by simp;omega
                  have HZ:Hid (¬ m=tx1.size):=hz
                  clear hz
                  go_wp2
                  go_meet
                  case rel =>
                    rw [HP.out.1,HP.out.2,hn0.out,HL.out,decide_eq_false HZ.out]
                    exact ⟨rfl,rfl,rfl⟩
          · have hdrop:cs.drop rd=[]:=List.drop_eq_nil_iff.2 (by omega)
            have HP:Hid (rdPiece tx1 (cs.drop rd)=tx1∧rdDone wt tx1 (cs.drop rd)=(wt || decide (tx1.size=0))):=by rw [hdrop];exact ⟨rfl,Bool.or_comm _ _⟩
            clear hdrop
            go_wp2
            go_meet
            case rel=>rw [HP.out.1,HP.out.2];exact ⟨rfl,rfl,rfl⟩
        case rest =>
          obtain ⟨rfl,rfl,rfl⟩:=hcut
          have hpl:=rdPiece_le tx1 (cs.drop rd)
          have hrl:=rdRest_le tx1 (cs.drop rd)
          have hre:=rest_eq tx1 (cs.drop rd)
          have HH:=H1.out
          obtain ⟨pc,hpc⟩:∃ pc,rdPiece tx1 (cs.drop rd)=pc:=⟨_,rfl⟩
          obtain ⟨dn,hdn⟩:∃ dn,rdDone wt tx1 (cs.drop rd)=dn:=⟨_,rfl⟩
          obtain ⟨rs,hrs⟩:∃ rs,rdRest tx1 (cs.drop rd)=rs:=⟨_,rfl⟩
          rw [hpc,hdn,hrs] at HH
          rw [hpc] at hpl
          rw [hrs] at hrl
          rw [hpc,hrs] at hre
          rw [hpc,hdn]
          subst hre
          have H2:Hid _:=HH
          clear HH H1 hpc hdn hrs hE heq
          have hES:(acc++pc).size=acc.size+pc.size:=ByteArray.size_append
          have hEp:=empty_iff pc
          have MB:=MM.out.below
          have HB:Hid (Below w.heap.size w wr):=MB
          clear MB
          by_cases hp0:pc.size=0
          · have hem:pc.toList.isEmpty=true:=by rw [hEp];simp [hp0]
            have HP:Hid (pc.size=0):=hp0
            have hdl:decide ((300:Int) < (acc.size:Int)+(pc.size:Int))=false:=by simp;omega
            have HLO:Hid (¬ 300 < acc.size+pc.size):=by show ¬ _;omega
            clear hEp hp0
            cases dn with
            | true =>
              obtain ⟨rfl,rfl⟩:=H2.out.2.1 HLO.out rfl
              have hcr:=reg_kept (acc++pc) tx _ cs fa wt w wr (by rw [hES];omega) MM.out
              clear d0 d1 d2 d3 z0 z1 z2 z3
              go_wp2_with (go_at_call 13;refine hcr.mono ?_;rintro e w3 ⟨rfl,d0,d1,d2,d3,z0,z1,z2,z3,dd⟩)
              obtain ⟨e0,e1,e2,e3⟩:=come_put (.string ⟨(reg (acc++pc)).toArray⟩) (.int .i64 0) (.int .i64 0) (.int .i64 (rd+1)) dd.out.1
              exact bodyPost_ret (v:=.agg #[.string ⟨(reg (acc++pc)).toArray⟩,.int .i64 0,.int .i64 0,.int .i64 (rd+1)]) (by simp [results,Tryz.results24,go_sem,e0,e1,e2,e3]) rfl ⟨rfl,below_put _ _ _ _ _ dd.out.2 (by omega)⟩
            | false =>
              by_cases hi:2 < idle+1
              · obtain ⟨rfl,rfl⟩:=H2.out.2.2.1 HLO.out (by decide) HP.out hi
                obtain rfl:idle=2:=by omega
                clear hi
                go_wp2
                obtain ⟨e0,e1,e2,e3⟩:=come_put (.string ⟨#[]⟩) (.int .i64 2) (.int .i64 0) (.int .i64 (rd+1)) MM.out.comeB
                exact bodyPost_ret (v:=.agg #[.string ⟨#[]⟩,.int .i64 2,.int .i64 0,.int .i64 (rd+1)]) (by simp [results,Tryz.results24,go_sem,e0,e1,e2,e3]) rfl ⟨rfl,below_put _ _ _ _ _ HB.out (by omega)⟩
              · obtain ⟨f',hgk,hg'⟩:=H2.out.2.2.2.1 HLO.out (by decide) HP.out hi
                have HG:Hid (gk=f'+1∧gat fa wt f' (tx1.extract pc.size tx1.size) (cs.drop (rd+1)) (rd+1) (acc++pc) (idle+1)=some (o,n)):=⟨hgk,hg'⟩
                have hdi:decide (2 < (idle:Int)+1)=false:=by simp;omega
                have HI:Hid (¬ 2 < idle+1):=hi
                clear hgk hg' hi
                go_wp2
                go_roundg f'
                case measure=>have:=HG.out.1;omega
                case rel =>
                  exact ⟨idle+1,acc++pc,_,rd+1,rfl,rfl,by go_num,by go_num,MM.out,HG.out.2,by rw [hES];have:=HLO.out;omega,by have:=HI.out;omega,by omega,by have:=CC.out.upto;have:=HG.out.1;omega⟩
          · have hem:pc.toList.isEmpty=false:=by rw [hEp];simp [hp0]
            have HP:Hid (¬ pc.size=0):=hp0
            clear hEp hp0
            by_cases hlong:300 < acc.size+pc.size
            · obtain ⟨rfl,rfl⟩:=H2.out.1 hlong
              have hdl:decide ((300:Int) < (acc.size:Int)+(pc.size:Int))=true:=by simp;omega
              clear hlong
              go_wp2
              obtain ⟨e0,e1,e2,e3⟩:=come_put (.string ⟨#[]⟩) (.int .i64 1) (.int .i64 0) (.int .i64 (rd+1)) MM.out.comeB
              exact bodyPost_ret (v:=.agg #[.string ⟨#[]⟩,.int .i64 1,.int .i64 0,.int .i64 (rd+1)]) (by simp [results,Tryz.results24,go_sem,e0,e1,e2,e3]) rfl ⟨rfl,below_put _ _ _ _ _ HB.out (by omega)⟩
            · have hdl:decide ((300:Int) < (acc.size:Int)+(pc.size:Int))=false:=by simp;omega
              have HLO:Hid (¬ 300 < acc.size+pc.size):=hlong
              have hbd:acc.size+pc.size≤300:=by omega
              have HBD:Hid (acc.size+pc.size≤300):=hbd
              clear hlong
              cases dn with
              | true =>
                obtain ⟨rfl,rfl⟩:=H2.out.2.1 HLO.out rfl
                have hcr:=reg_kept (acc++pc) tx _ cs fa wt w wr (by rw [hES];omega) MM.out
                clear d0 d1 d2 d3 z0 z1 z2 z3
                go_wp2_with (go_at_call 13;refine hcr.mono ?_;rintro e w3 ⟨rfl,d0,d1,d2,d3,z0,z1,z2,z3,dd⟩)
                obtain ⟨e0,e1,e2,e3⟩:=come_put (.string ⟨(reg (acc++pc)).toArray⟩) (.int .i64 0) (.int .i64 0) (.int .i64 (rd+1)) dd.out.1
                exact bodyPost_ret (v:=.agg #[.string ⟨(reg (acc++pc)).toArray⟩,.int .i64 0,.int .i64 0,.int .i64 (rd+1)]) (by simp [results,Tryz.results24,go_sem,e0,e1,e2,e3]) rfl ⟨rfl,below_put _ _ _ _ _ dd.out.2 (by omega)⟩
              | false =>
                obtain ⟨f',hgk,hg'⟩:=H2.out.2.2.2.2 HLO.out (by decide) HP.out
                have HG:Hid (gk=f'+1∧gat fa wt f' (tx1.extract pc.size tx1.size) (cs.drop (rd+1)) (rd+1) (acc++pc) 0=some (o,n)):=⟨hgk,hg'⟩
                clear hgk hg'
                go_wp2
                go_roundg f'
                case measure=>have:=HG.out.1;omega
                case rel =>
                  exact ⟨0,acc++pc,_,rd+1,rfl,rfl,by go_num,by go_num,MM.out,HG.out.2,by rw [hES];have:=HLO.out;omega,by omega,by omega,by have:=CC.out.upto;have:=HG.out.1;omega⟩
end Go.Proofs.YtljcljipppjnoaaGreatDoor
