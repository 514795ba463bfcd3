import Derived.Test.YtljcljipppjnoaaGreatDoorJA02
import Derived.Deep.AppendLies
import Derived.Deep.CutBlock
import Derived.Deep.Light
import Derived.Lib.Join
namespace Go.Proofs.YtljcljipppjnoaaGreatDoor
open Go.RowKit
theorem list_fin (inner:List (List UInt8)→List Ev) (ls:List (List UInt8)) (n m:Nat) (done IA:List Ev) (hJ:done++(itemsAt inner ls n).1=[⟨3,false,0,[]⟩]++(itemsAt inner ls 0).1∧(itemsAt inner ls n).2=(itemsAt inner ls 0).2)
    (hit:itemsAt inner ls n=(itemEv inner ls n,m)) (hev:itemEv inner ls n=[⟨4,false,0,[]⟩]++IA++[⟨4,true,0,[]⟩]) :
    listN inner ls=m∧(listS inner ls).length=done.length+1+IA.length+1+1∧evCs (listS inner ls)=evCs done++(evCells ⟨4,false,0,[]⟩++(evCs IA++(evCells ⟨4,true,0,[]⟩++evCells ⟨3,true,0,[]⟩))):=by
  obtain ⟨h1,h2⟩:=hJ
  rw [hit] at h1 h2
  simp only at h1 h2
  refine ⟨h2.symm,?_,?_⟩
  · rw [listS,← h1,hev]
    simp
    omega
  · rw [listS,← h1,hev]
    simp [evCs]
theorem own_ne {w w':World} {base base' size size' n n':Nat} {e e':TypeId} {v v':Value} {xs xs':List Value} (h1:w.ownsRow base e size v n xs) (h2:w'.ownsRow base' e' size' v' n' xs') (hb:w.heap.size≤base'):v'.ownBlock=none∨v'.ownBlock ≠ v.ownBlock:=by
  cases hv:v'.ownBlock with
  | none=>exact Or.inl rfl
  | some k =>
    refine Or.inr fun he=>?_
    have a:=(h1.lt k he.symm).2
    have b:=(h2.lt k hv).1
    omega
set_option maxRecDepth 100000 in
set_option maxRecDepth 100000 in
set_option maxHeartbeats 4000000 in
theorem rlisted_any (inner:List (List UInt8)→List Ev) (depth:Int) (hd:0≤depth∧depth < 3) (hB:BlocksC (depth+1) inner) (hI:∀ ls,(inner ls).length≤16 * ls.length)
    (g o cap:Nat) (ls:List (List UInt8)) (w:World) (hS:Strs g o cap ls w) (hM:Small 1073741824 ls) (hn0:0 < ls.length) :
    Calls Tryz.prog 43 #[.slice (some ⟨g,o,none⟩) ls.length cap,.int .i64 depth] w fun e w' =>
      ∃ v,e=.returned (.tuple #[v,.int .i64 (listN inner ls)])∧w'.ownsRow w.heap.size 83 4 v (listS inner ls).length (evCs (listS inner ls))∧Below w.heap.size w w':=by
  have hlen:=hM.1
  have HM:Hid (Small 1073741824 ls):=hM
  have HS:Hid (Strs g o cap ls w):=hS
  have hglt:=hS.lt
  have HI:Hid (∀ ls,(inner ls).length≤16 * ls.length):=hI
  have HB:Hid (BlocksC (depth+1) inner):=hB
  clear hM hS hI hB
  obtain ⟨hd1,hd2⟩:=hd
  obtain ⟨i0,hi,hz0,hz1,hz2⟩:=info_parts Tryz.infoStr
  obtain ⟨j0,hj,hy0,hy1,hy2⟩:=info_parts Tryz.infoEv
  have oL:=own_lit w ⟨3,false,0,[]⟩ 83
  go_enter Tryz.func43,Tryz.ntmps43
  go_wp2
  go_loopg [6,7] ls.length (fun gk v i wr=>∃ (n:Nat) (done:List Ev),n < ls.length∧ls.length - n≤gk∧i=.int .i64 n∧wr.ownsRow w.heap.size 83 4 v done.length (evCs done)∧Below w.heap.size w wr∧Hid (done++(itemsAt inner ls n).1=[⟨3,false,0,[]⟩]++(itemsAt inner ls 0).1∧(itemsAt inner ls n).2=(itemsAt inner ls 0).2)∧done.length≤1+18 * n)
  case atStart=>exact ⟨0,[⟨3,false,0,[]⟩],hn0,by omega,rfl,oL,(Below.refl _ w).alloc (Nat.le_refl _) _,⟨rfl,rfl⟩,by simp⟩
  case round =>
    clear oL
    rename World=>w0
    obtain ⟨n,done,hn,hgk,rfl,hown,hbel,hJ,hdl⟩:=hrel
    have hbs:=hbel.size
    obtain ⟨l,hl⟩:∃ l,ls[n]=l:=⟨_,rfl⟩
    obtain ⟨b,hb⟩:∃ b:ByteArray,b=⟨l.toArray⟩:=⟨_,rfl⟩
    have hcell:=(HS.out.below hbel hglt).cell n l (by rw [List.getElem?_eq_getElem hn,hl])
    rw [← hb] at hcell
    have hbsz:b.size≤1073741824:=by rw [hb,size_of];exact HM.out.2 l (by rw [← hl];exact List.getElem_mem hn)
    have hX:b.extract 2 b.size=⟨(l.drop 2).toArray⟩:=by rw [hb,size_of];exact ba_ext l 2 l.length rfl
    have hl2:¬ 2 < b.size→l.drop 2=[]:=by
      intro h
      rw [hb,size_of] at h
      exact List.drop_eq_nil_iff.2 (by omega)
    have HL:Hid (itemIn ls n=l.drop 2 :: (moreAt ls (n+1)).1):=by
      show _=_
      rw [itemIn,List.getElem?_eq_getElem hn,hl]
      rfl
    have HX:Hid (b.extract 2 b.size=⟨(l.drop 2).toArray⟩):=hX
    have HL2:Hid (¬ 2 < b.size→l.drop 2=[]):=hl2
    clear hb hl hX hl2
    go_wp2_with (at_builtin;refine wpList_append_own _ rfl _ _ 25 rfl w0.heap.size 9 i0 (.string ⟨#[]⟩) 1 16 Tryz.underlying25 hi hz0 hz1 hz2 rfl (by decide) _ 0 [] rfl (World.ownsRow_nil _ _ _ _) ⟨w0.heap.size,0,none⟩ 1 1 [.string ⟨#[]⟩] rfl rfl ?c1 ?c2 ?c3 ?c4 ?c5 ?_)
    case c1 =>
      intro j u hj
      match j,hj with
      | 0,hj=>simp at hj;subst hj;simp [Addr.add]
    case c2=>intro u hu;simp at hu;subst hu;rfl
    case c3=>unfold maxLen;omega
    case c4=>omega
    case c5=>simp
    intro vi w1 hin hgrow _
    have b1:Below w0.heap.size w0 w1:=((Below.refl _ w0).alloc (Nat.le_refl _) _).grown hgrow (by simp) (fun b hb=>by cases hb)
    obtain ⟨gi,ci,rfl,hgi,hgl⟩:=hin.form (by omega)
    have hc0:w1.cell? ⟨gi,0,none⟩=some (.string ⟨#[]⟩):=hin.cellAt 0 (by omega)
    have hf0:=hin.frozenAt 0
    rw [← b1.cell (p:=⟨g,o+n,none⟩) (by show g < _;omega)] at hcell
    clear hgrow
    go_upto_if 23 with fail
    go_cut [8] (fun vi wx=>wx.ownsRow w0.heap.size 9 1 vi 1 (strCs [l.drop 2])∧Below w0.heap.size w0 wx)
    case first =>
      by_cases h2:2 < b.size
      · have hs:=hin.stored 0 (.string (b.extract 2 b.size))
        obtain ⟨hs1,hs2⟩:=hs
        have hs1':(w1.setCell ⟨gi,0,none⟩ (.string (b.extract 2 b.size))).ownsRow w0.heap.size 9 1 (.slice (some ⟨gi,0,none⟩) 1 ci) 1 (strCs [l.drop 2]):=by
          rw [HX.out] at hs1 ⊢
          exact hs1
        have b2:=b1.grown hs2 (by have:=b1.size;omega) (fun b hb=>by cases hb;exact hgi)
        clear hs1 hs2 hin
        go_wp2
        go_meet
        case rel=>exact ⟨hs1',b2⟩
      · have hin':w1.ownsRow w0.heap.size 9 1 (.slice (some ⟨gi,0,none⟩) 1 ci) 1 (strCs [l.drop 2]):=by
          rw [HL2.out h2]
          exact hin
        clear hin
        go_wp2
        go_meet
        case rel=>exact ⟨hin',b1⟩
    case rest =>
      clear hin hc0 hf0 hcell hgi hgl b1
      obtain ⟨hin1,hb1⟩:=hcut
      rename World=>w1'
      go_upto_block 2 with fail
      go_cut [8,7] (fun vi i wx=>∃ (m:Nat) (acc:List (List UInt8)),n+1≤m∧m≤ls.length∧i=.int .i64 m∧wx.ownsRow w0.heap.size 9 1 vi acc.length (strCs acc)∧Below w0.heap.size w0 wx∧acc.length=m - n∧Hid (itemIn ls n=acc∧(moreAt ls (n+1)).2=m))
      case first =>
        go_wp2_with fail
        go_loopg [8,7] ls.length (fun gk vi i w2=>∃ (m:Nat) (acc:List (List UInt8)),n+1≤m∧m≤ls.length∧ls.length - m≤gk∧i=.int .i64 m∧w2.ownsRow w0.heap.size 9 1 vi acc.length (strCs acc)∧Below w0.heap.size w0 w2∧acc.length=m - n∧Hid (acc++(moreAt ls m).1=itemIn ls n∧(moreAt ls m).2=(moreAt ls (n+1)).2))
        case atStart=>exact ⟨n+1,[l.drop 2],Nat.le_refl _,by omega,by omega,by go_num,hin1,hb1,by simp,⟨by rw [HL.out];rfl,rfl⟩⟩
        case round =>
          clear hin1 hb1
          rename World=>w2
          obtain ⟨m,acc,hm1,hm2,hmk,rfl,hin2,hb2,hal,hq⟩:=hrel
          have B2:Below w.heap.size w w2:=hbel.trans (hb2.mono hbs)
          have z2:=hb2.size
          obtain ⟨k,hk⟩:∃ x,behindS ls m=x:=⟨_,rfl⟩
          have hkl:k≤ls.length:=by rw [← hk];exact behind_le ls m hm2
          have hkm:m≤k:=by rw [← hk];exact behind_ge ls m
          have HK:Hid (behindS ls m=k):=hk
          have hcK2:=rbehind_any g o cap ls m w2 (HS.out.below B2 hglt) ⟨by omega,fun l hl=>by have:=HM.out.2 l hl;omega⟩ hm2
          rw [hk] at hcK2
          have hstop:moreAt ls m=([],m)→Hid (itemIn ls n=acc∧(moreAt ls (n+1)).2=m):=by
            intro he
            have h1:=hq.out.1
            have h2:=hq.out.2
            rw [he] at h1 h2
            exact ⟨by rw [← h1];simp,h2.symm⟩
          clear hk
          by_cases hlt:m < ls.length
          · by_cases hke:k < ls.length
            · obtain ⟨lk,hlk⟩:∃ l,ls[k]=l:=⟨_,rfl⟩
              have hcellk2:=(HS.out.below B2 hglt).cell k lk (by rw [List.getElem?_eq_getElem hke,hlk])
              have hcT:=fun W=>begins_any ⟨lk.toArray⟩ ⟨#[32,32]⟩ W
              have htv:beginsS ⟨lk.toArray⟩ ⟨#[32,32]⟩=two lk:=rfl
              rw [htv] at hcT
              cases htt:two lk with
              | true =>
                clear hstop
                have HG:Hid (moreAt ls m=(List.replicate (k - m) []++lk.drop 2 :: (moreAt ls (k+1)).1,(moreAt ls (k+1)).2)):=by
                  have:=more_go ls m k HK.out hke (by rw [hlk];exact htt)
                  rw [hlk] at this
                  exact this
                obtain ⟨b,hb⟩:∃ b:ByteArray,b=⟨lk.toArray⟩:=⟨_,rfl⟩
                have hbsz:b.size≤1073741824:=by rw [hb,size_of];exact HM.out.2 lk (by rw [← hlk];exact List.getElem_mem hke)
                have hb2':2≤b.size:=by
                  rw [hb]
                  by_cases h:2≤(⟨lk.toArray⟩:ByteArray).size
                  · exact h
                  · have:=begins_short ⟨lk.toArray⟩ ⟨#[32,32]⟩ h
                    rw [htv,htt] at this
                    exact absurd this (by decide)
                have HX:Hid (b.extract 2 b.size=⟨(lk.drop 2).toArray⟩):=by show _=_;rw [hb,size_of];exact ba_ext lk 2 lk.length rfl
                rw [htt] at hcT
                rw [← hb] at hcT hcellk2
                have HQ:Hid (acc++(moreAt ls m).1=itemIn ls n∧(moreAt ls m).2=(moreAt ls (n+1)).2):=hq.out
                have hkb:((k:Int) == (ls.length:Int))=false:=by simp;omega
                clear htt htv hlk hb hq
                go_upto_block 4 with (first | (go_at_call 66;refine hcK2.mono ?_;rintro e w' ⟨rfl,hw⟩;rw [hw];clear hw) | (go_at_call 64;refine (hcT _).mono ?_;rintro e w' ⟨rfl,hw⟩;rw [hw];clear hw))
                go_wp2_with fail
                go_loopg [8,7] k (fun gk vi i w3=>∃ j:Nat,m≤j∧j≤k∧k - j≤gk∧i=.int .i64 j∧w3.ownsRow w0.heap.size 9 1 vi (acc.length+(j - m)) (strCs (acc++List.replicate (j - m) []))∧Below w0.heap.size w0 w3)
                case atStart=>exact ⟨m,Nat.le_refl _,hkm,by omega,rfl,by simpa using hin2,hb2⟩
                case round =>
                  clear hin2
                  rename World=>w3
                  obtain ⟨j,hj1,hj2,hjk,rfl,hin3,hb3⟩:=hrel
                  have z3:=hb3.size
                  by_cases hjl:j < k
                  · go_wp2_with (at_builtin;refine wpList_append_own _ rfl _ _ 25 rfl w0.heap.size 9 i0 (.string ⟨#[]⟩) 1 16 Tryz.underlying25 hi hz0 hz1 hz2 rfl (by decide) _ _ _ rfl (hin3.alloc _) ⟨w3.heap.size,0,none⟩ 1 1 [.string ⟨#[]⟩] rfl rfl ?c1 ?c2 ?c3 ?c4 ?c5 ?_)
                    case c1 =>
                      intro j u hj
                      match j,hj with
                      | 0,hj=>simp at hj;subst hj;simp [Addr.add]
                    case c2=>intro u hu;simp at hu;subst hu;rfl
                    case c3=>unfold maxLen;omega
                    case c4=>omega
                    case c5=>simp;omega
                    intro v4 w4 hin4 hgrow4 _
                    go_wp2
                    go_roundg (k - (j+1))
                    case measure=>omega
                    case rel =>
                      refine ⟨j+1,by omega,by omega,Nat.le_refl _,by go_num,?_,(hb3.alloc z3 _).grown hgrow4 (by simp;omega) (fun b hb=>(hin3.lt b hb).1)⟩
                      have e1:j+1 - m=(j - m)+1:=by omega
                      rw [e1,List.replicate_succ',← List.append_assoc]
                      rw [show acc.length+(j - m+1)=acc.length+(j - m)+1 by omega]
                      rw [← hal] at hin4
                      simpa [strCs] using hin4
                  · have B3:Below w.heap.size w w3:=hbel.trans (hb3.mono hbs)
                    have hcellk3:w3.cell? ⟨g,o+k,none⟩=some (.string b):=by
                      rw [B3.cell (p:=⟨g,o+k,none⟩) hglt,← B2.cell (p:=⟨g,o+k,none⟩) hglt]
                      exact hcellk2
                    clear hcellk2
                    have hjeq:k=j:=by omega
                    subst hjeq
                    go_wp2_with (at_builtin;refine wpList_append_own _ rfl _ _ 25 rfl w0.heap.size 9 i0 (.string ⟨#[]⟩) 1 16 Tryz.underlying25 hi hz0 hz1 hz2 rfl (by decide) _ _ _ rfl (hin3.alloc _) ⟨w3.heap.size,0,none⟩ 1 1 [.string (b.extract 2 b.size)] rfl rfl ?c1 ?c2 ?c3 ?c4 ?c5 ?_)
                    case c1 =>
                      intro j u hj
                      match j,hj with
                      | 0,hj=>simp at hj;subst hj;simp [Addr.add]
                    case c2=>intro u hu;simp at hu;subst hu;rfl
                    case c3=>unfold maxLen;omega
                    case c4=>omega
                    case c5=>simp;omega
                    intro v4 w4 hin4 hgrow4 _
                    go_wp2
                    go_roundg (ls.length - (k+1))
                    case measure=>omega
                    case rel =>
                      refine ⟨k+1,acc++List.replicate (k - m) []++[lk.drop 2],by omega,by omega,Nat.le_refl _,by go_num,?_,(hb3.alloc z3 _).grown hgrow4 (by simp;omega) (fun b hb=>(hin3.lt b hb).1),?_,?_⟩
                      · rw [HX.out] at hin4
                        have e1:(acc++List.replicate (k - m) []++[lk.drop 2]).length=acc.length+(k - m)+1:=by simp;omega
                        rw [e1]
                        rw [← hal] at hin4
                        simpa [strCs] using hin4
                      · simp only [List.length_append,List.length_replicate,List.length_singleton]
                        omega
                      · have h1:=HQ.out.1
                        have h2:=HQ.out.2
                        rw [HG.out] at h1 h2
                        refine ⟨?_,h2⟩
                        rw [← h1]
                        simp
              | false =>
                have hfin:=hstop (more_no ls m k HK.out hke (by rw [hlk];exact htt))
                rw [htt] at hcT
                clear hstop hq htt htv hlk
                go_wp2_with (first | (go_at_call 66;refine hcK2.mono ?_;rintro e w' ⟨rfl,hw⟩;rw [hw];clear hw) | (go_at_call 64;refine (hcT _).mono ?_;rintro e w' ⟨rfl,hw⟩;rw [hw];clear hw))
                go_meet
                case rel=>exact ⟨m,acc,hm1,hm2,rfl,hin2,hb2,hal,hfin⟩
            · have hfin:=hstop (more_end ls m k HK.out hke)
              clear hstop hq
              go_wp2_with (first | (go_at_call 66;refine hcK2.mono ?_;rintro e w' ⟨rfl,hw⟩;rw [hw];clear hw))
              go_meet
              case rel=>exact ⟨m,acc,hm1,hm2,rfl,hin2,hb2,hal,hfin⟩
          · have hfin:=hstop (more_end ls m k HK.out (by omega))
            clear hstop hq hcK2
            go_wp2
            go_meet
            case rel=>exact ⟨m,acc,hm1,hm2,rfl,hin2,hb2,hal,hfin⟩
      case rest =>
        obtain ⟨m,acc,hm1,hm2,rfl,hin2,hb2,hal,hfin⟩:=hcut
        clear hin1 hb1
        have B2:Below w.heap.size w wc:=hbel.trans (hb2.mono hbs)
        obtain ⟨k,hk⟩:∃ x,behindS ls m=x:=⟨_,rfl⟩
        have hkl:k≤ls.length:=by rw [← hk];exact behind_le ls m hm2
        have hkm:m≤k:=by rw [← hk];exact behind_ge ls m
        have HK:Hid (behindS ls m=k):=hk
        clear hk
        have hm0:acc.length≤1073741824:=by omega
        have hEnd:Hid (∀ W,W.ownsRow w0.heap.size 9 1 u8 acc.length (strCs acc)→Calls Tryz.prog 15 #[u8,.int .i64 (depth+1)] W fun e w'=>∃ v',e=.returned v'∧w'.ownsRow W.heap.size 83 4 v' (inner acc).length (evCs (inner acc))∧Below W.heap.size W w'):=by
          intro W ho
          exact HB.out u8 acc W (lines_own ho) (by rw [← hfin.out.1];exact (item_small ls n hn _ HM.out).1)
        have hIb:(inner acc).length≤16 * acc.length:=HI.out acc
        obtain ⟨IA,hIA⟩:∃ x,inner acc=x:=⟨_,rfl⟩
        rw [hIA] at hEnd hIb
        have own2:=own_below hown hb2 (Nat.le_refl _)
        have z2:=hb2.size
        have HIA:Hid (inner acc=IA):=hIA
        clear hIA
        go_wp2_with (first | (go_at_call 15;refine (hEnd.out _ hin2).mono ?_;rintro e w3 ⟨vb,rfl,ownb,belb⟩) | (at_builtin;refine wpList_append_own _ rfl _ _ 27 rfl w.heap.size 83 j0 (.agg #[.int .i64 0,.bool false,.int .i64 0,.string ⟨#[]⟩]) 4 40 Tryz.underlying27 hj hy0 hy1 hy2 rfl (by decide) _ _ _ rfl ((own_below own2 belb (Nat.le_refl _)).alloc _) ⟨w3.heap.size,0,none⟩ 1 1 (evCells ⟨4,false,0,[]⟩) rfl rfl ?e1 (ev_one _) ?e3 ?e4 ?e5 ?_))
        case e1=>exact ev_cell _ _ _ (by simp)
        case e3=>unfold maxLen;omega
        case e4=>omega
        case e5=>have:=belb.size;simp;omega
        intro v4 w4 own4 grow4 _
        have z3:=belb.size
        have own3:=own_below own2 belb (Nat.le_refl _)
        have B3:Below w.heap.size w w3:=B2.trans (belb.mono (by omega))
        have ownb4:=(ownb.alloc _).kept grow4 (own_ne own2 ownb (Nat.le_refl _))
        have B4:Below w.heap.size w w4:=(B3.alloc (by omega) _).grown grow4 (by simp;omega) (fun b hb=>(own3.lt b hb).1)
        have z4:=B4.size
        clear own3 ownb belb grow4 z3 B3 own2 hin2 hEnd
        go_wp2_with (at_builtin;refine wpList_append_row _ rfl _ _ 27 rfl w.heap.size wc.heap.size 83 j0 (.agg #[.int .i64 0,.bool false,.int .i64 0,.string ⟨#[]⟩]) 4 40 Tryz.underlying27 hj hy0 hy1 hy2 rfl (by decide) _ _ _ rfl own4 _ _ _ rfl ownb4 (evCs_one' _) ?f3 ?f4 ?f5 ?_)
        case f3=>unfold maxLen;omega
        case f4=>omega
        case f5=>omega
        intro v5 w5 own5 grow5
        have B5:Below w.heap.size w w5:=B4.grown grow5 (by omega) (fun b hb=>(own4.lt b hb).1)
        have z5:=B5.size
        clear own4 ownb4 grow5
        go_wp2_with (at_builtin;refine wpList_append_own _ rfl _ _ 27 rfl w.heap.size 83 j0 (.agg #[.int .i64 0,.bool false,.int .i64 0,.string ⟨#[]⟩]) 4 40 Tryz.underlying27 hj hy0 hy1 hy2 rfl (by decide) _ _ _ rfl (own5.alloc _) ⟨w5.heap.size,0,none⟩ 1 1 (evCells ⟨4,true,0,[]⟩) rfl rfl ?g1 (ev_one _) ?g3 ?g4 ?g5 ?_)
        case g1=>exact ev_cell _ _ _ (by simp)
        case g3=>unfold maxLen;omega
        case g4=>omega
        case g5=>simp;omega
        intro v6 w6 own6 grow6 _
        have B6:Below w.heap.size w w6:=(B5.alloc z5 _).grown grow6 (by simp;omega) (fun b hb=>(own5.lt b hb).1)
        have z6:=B6.size
        have hcK:=rbehind_any g o cap ls m w6 (HS.out.below B6 hglt) ⟨by omega,fun l hl=>by have:=HM.out.2 l hl;omega⟩ hm2
        rw [HK.out] at hcK
        have hkI:Hid (behindS ls (moreAt ls (n+1)).2=k):=by show _=_;rw [hfin.out.2,HK.out]
        clear own5 grow6 z5 B5 z4 B4
        by_cases hke:k < ls.length
        · obtain ⟨lk,hlk⟩:∃ l,ls[k]=l:=⟨_,rfl⟩
          have hcellk:=(HS.out.below B6 hglt).cell k lk (by rw [List.getElem?_eq_getElem hke,hlk])
          have hcI:=fun W=>ritem_any ⟨lk.toArray⟩ W
          have hiv:itemS ⟨lk.toArray⟩=itemL lk:=rfl
          rw [hiv] at hcI
          cases hii:itemL lk with
          | true =>
            have HG:Hid (itemsAt inner ls n=(itemEv inner ls n++(itemsAt inner ls k).1,(itemsAt inner ls k).2)):=items_go inner ls n k hkI.out hke (by rw [hlk];exact hii)
            rw [hii] at hcI
            clear hii hiv hlk
            go_wp2_with (first | (go_at_call 66;refine hcK.mono ?_;rintro e w' ⟨rfl,hw⟩;rw [hw];clear hw) | (go_at_call 65;refine (hcI _).mono ?_;rintro e w' ⟨rfl,hw⟩;rw [hw];clear hw))
            go_roundg (ls.length - k)
            case rel =>
              refine ⟨k,done++itemEv inner ls n,hke,Nat.le_refl _,rfl,?_,B6,?_,?_⟩
              · have e1:(done++itemEv inner ls n).length=done.length+1+IA.length+1:=by
                  rw [itemEv,hfin.out.1,HIA.out]
                  simp
                  omega
                have e2:evCs (done++itemEv inner ls n)=evCs done++(evCells ⟨4,false,0,[]⟩++(evCs IA++evCells ⟨4,true,0,[]⟩)):=by
                  rw [itemEv,hfin.out.1,HIA.out]
                  simp [evCs]
                rw [e1,e2]
                first | exact own6 | (simpa only [List.append_assoc] using own6)
              · refine ⟨?_,?_⟩
                · rw [← hJ.out.1,HG.out,List.append_assoc]
                · rw [← hJ.out.2,HG.out]
              · rw [itemEv,hfin.out.1,HIA.out]
                simp <;> omega
            case measure=>omega
          | false =>
            have HF:Hid (listN inner ls=m∧(listS inner ls).length=done.length+1+IA.length+1+1∧evCs (listS inner ls)=evCs done++(evCells ⟨4,false,0,[]⟩++(evCs IA++(evCells ⟨4,true,0,[]⟩++evCells ⟨3,true,0,[]⟩)))) :=
              list_fin inner ls n m done IA hJ.out (by rw [items_no inner ls n k hkI.out hke (by rw [hlk];exact hii),hfin.out.2]) (by rw [itemEv,hfin.out.1,HIA.out])
            rw [hii] at hcI
            clear hii hiv hlk
            go_wp2_with (first | (go_at_call 66;refine hcK.mono ?_;rintro e w' ⟨rfl,hw⟩;rw [hw];clear hw) | (go_at_call 65;refine (hcI _).mono ?_;rintro e w' ⟨rfl,hw⟩;rw [hw];clear hw) | (at_builtin;refine wpList_append_own _ rfl _ _ 27 rfl w.heap.size 83 j0 (.agg #[.int .i64 0,.bool false,.int .i64 0,.string ⟨#[]⟩]) 4 40 Tryz.underlying27 hj hy0 hy1 hy2 rfl (by decide) _ _ _ rfl (own6.alloc _) ⟨w6.heap.size,0,none⟩ 1 1 (evCells ⟨3,true,0,[]⟩) rfl rfl ?z1 (ev_one _) ?z3 ?z4 ?z5 ?_))
            case z1=>exact ev_cell _ _ _ (by simp)
            case z3=>unfold maxLen;omega
            case z4=>omega
            case z5=>simp;omega
            intro v9 w9 own9 grow9 _
            go_wp2
            go_ret2
            refine ⟨v9,by rw [HF.out.1];rfl,?_,(B6.alloc z6 _).grown grow9 (by simp;omega) (fun b hb=>(own6.lt b hb).1)⟩
            rw [HF.out.2.1,HF.out.2.2]
            first | exact own9 | (simpa only [List.append_assoc] using own9)
        · have HF:Hid (listN inner ls=m∧(listS inner ls).length=done.length+1+IA.length+1+1∧evCs (listS inner ls)=evCs done++(evCells ⟨4,false,0,[]⟩++(evCs IA++(evCells ⟨4,true,0,[]⟩++evCells ⟨3,true,0,[]⟩)))) :=
            list_fin inner ls n m done IA hJ.out (by rw [items_end inner ls n k hkI.out hke,hfin.out.2]) (by rw [itemEv,hfin.out.1,HIA.out])
          go_wp2_with (first | (go_at_call 66;refine hcK.mono ?_;rintro e w' ⟨rfl,hw⟩;rw [hw];clear hw) | (at_builtin;refine wpList_append_own _ rfl _ _ 27 rfl w.heap.size 83 j0 (.agg #[.int .i64 0,.bool false,.int .i64 0,.string ⟨#[]⟩]) 4 40 Tryz.underlying27 hj hy0 hy1 hy2 rfl (by decide) _ _ _ rfl (own6.alloc _) ⟨w6.heap.size,0,none⟩ 1 1 (evCells ⟨3,true,0,[]⟩) rfl rfl ?z1 (ev_one _) ?z3 ?z4 ?z5 ?_))
          case z1=>exact ev_cell _ _ _ (by simp)
          case z3=>unfold maxLen;omega
          case z4=>omega
          case z5=>simp;omega
          intro v9 w9 own9 grow9 _
          go_wp2
          go_ret2
          refine ⟨v9,by rw [HF.out.1];rfl,?_,(B6.alloc z6 _).grown grow9 (by simp;omega) (fun b hb=>(own6.lt b hb).1)⟩
          rw [HF.out.2.1,HF.out.2.2]
          first | exact own9 | (simpa only [List.append_assoc] using own9)
end Go.Proofs.YtljcljipppjnoaaGreatDoor
namespace Go.Proofs.YtljcljipppjnoaaGreatDoor
open Go.RowKit
def levelL (l:List UInt8):Nat:=levelS ⟨l.toArray⟩
def stepS (inner:List (List UInt8)→List Ev) (depth:Int) (l:List UInt8) (ls:List (List UInt8)):List Ev × Nat :=
  if startsS ⟨l.toArray⟩ depth=2 then (leafS 5 0 (fencedT ls),fencedN ls)
  else if startsS ⟨l.toArray⟩ depth=3 then (leafS 1 (levelL l) (trimL (l.drop (levelL l))),1)
  else if startsS ⟨l.toArray⟩ depth=4 then (quoteS inner ls,quoteN ls)
  else if startsS ⟨l.toArray⟩ depth=5 then (listS inner ls,listN inner ls)
  else (leafS 0 0 (joinT (ls.take (paraFrom ls depth 1))),paraFrom ls depth 1)
def blocksF (inner:List (List UInt8)→List Ev) (depth:Int):List (List UInt8)→List Ev
  | []=>[]
  | l :: r=>if blankL l=true then blocksF inner depth r else (stepS inner depth l (l :: r)).1++blocksF inner depth (r.drop ((stepS inner depth l (l :: r)).2 - 1))
termination_by ls=>ls.length
decreasing_by
  · simp
  · simp only [List.length_drop,List.length_cons];omega
def blocksAt:Nat→List (List UInt8)→List Ev
  | 0=>blocksF (fun _=>[]) 3
  | d+1=>blocksF (blocksAt d) (2 - (d:Int))
theorem leaf_le (k l:Int) (t:List UInt8):(leafS k l t).length≤3:=by
  unfold leafS
  split <;> simp
theorem begins_q (l:List UInt8) (h:beginsS ⟨l.toArray⟩ ⟨#[62]⟩=true):isQ l=true:=by
  cases l with
  | nil=>exact absurd h (by decide)
  | cons c r =>
    simp only [beginsS,List.isPrefixOf,Bool.and_true] at h
    simp only [isQ]
    simp at h
    simp [h]
theorem starts4 (s:ByteArray) (d:Int) (h:startsS s d=4):beginsS s ⟨#[62]⟩=true∧d < 3:=by
  unfold startsS at h
  split at h
  · omega
  split at h
  · omega
  split at h
  · assumption
  split at h <;> omega
theorem starts5 (s:ByteArray) (d:Int) (h:startsS s d=5):itemS s=true∧d < 3:=by
  unfold startsS at h
  split at h
  · omega
  split at h
  · omega
  split at h
  · omega
  split at h
  · assumption
  · omega
theorem starts3 (s:ByteArray) (d:Int) (h:startsS s d=3):0 < levelS s:=by
  unfold startsS at h
  split at h
  · omega
  split at h
  · assumption
  split at h
  · omega
  split at h <;> omega
theorem scan_le (p:List UInt8→Bool) (ls:List (List UInt8)) (n:Nat) (h:n≤ls.length):scan p ls n≤ls.length∧n≤scan p ls n:=by
  unfold scan
  have:=(List.takeWhile_sublist (l:=ls.drop n) p).length_le
  rw [List.length_drop] at this
  omega
theorem step_facts (inner:List (List UInt8)→List Ev) (c:Nat) (depth:Int) (hI:∀ ls,(inner ls).length≤c * ls.length) (l:List UInt8) (r:List (List UInt8)) :
    1≤(stepS inner depth l (l :: r)).2∧(stepS inner depth l (l :: r)).2≤(l :: r).length∧(stepS inner depth l (l :: r)).1.length≤(c+4) * (stepS inner depth l (l :: r)).2:=by
  have h3:∀ (n:Nat) (k v:Int) (t:List UInt8),1≤n→(leafS k v t).length≤(c+4) * n:=by
    intro n k v t hn
    have h1:=leaf_le k v t
    have h2:(c+4) * 1≤(c+4) * n:=Nat.mul_le_mul_left _ hn
    omega
  have hlen:1≤(l :: r).length:=by simp
  unfold stepS
  split
  · have hs:=scan_le (fun l=>!shuts l) (l :: r) 1 hlen
    have he:shutAt (l :: r) 1=scan (fun l=>!shuts l) (l :: r) 1:=rfl
    have hN:1≤fencedN (l :: r)∧fencedN (l :: r)≤(l :: r).length:=by
      unfold fencedN
      split <;> omega
    exact ⟨hN.1,hN.2,h3 _ _ _ _ hN.1⟩
  split
  · exact ⟨Nat.le_refl _,hlen,h3 _ _ _ _ (Nat.le_refl _)⟩
  split
  · next h4 =>
    have hq:=begins_q l (starts4 _ _ h4).1
    have hs:=scan_le isQ (l :: r) 1 hlen
    have he:quoteN (l :: r)=scan isQ (l :: r) 1:=scan_lt isQ (l :: r) 0 (by simp) hq
    refine ⟨by simp only;omega,by simp only;omega,?_⟩
    simp only
    rw [quote_len]
    have h1:=hI (quoteIn (l :: r))
    have h2:(quoteIn (l :: r)).length=quoteN (l :: r):=by rw [quoteIn,List.length_map,List.length_take];omega
    rw [h2] at h1
    rw [Nat.add_mul]
    omega
  split
  · obtain ⟨a1,a2,a3⟩:=items_facts inner c hI (l :: r) 0 (by simp)
    refine ⟨a1,a2,?_⟩
    simp only [listS,listN,List.length_append,List.length_singleton]
    rw [Nat.sub_zero] at a3
    rw [Nat.add_mul] at a3 ⊢
    omega
  · have hs:=scan_le (stays depth) (l :: r) 1 hlen
    have he:paraFrom (l :: r) depth 1=scan (stays depth) (l :: r) 1:=rfl
    exact ⟨by simp only;omega,by simp only;omega,h3 _ _ _ _ (by omega)⟩
theorem blocks_le (inner:List (List UInt8)→List Ev) (c:Nat) (depth:Int) (hI:∀ ls,(inner ls).length≤c * ls.length) (ls:List (List UInt8)):(blocksF inner depth ls).length≤(c+4) * ls.length:=by
  induction hm:ls.length using Nat.strongRecOn generalizing ls with
  | _ m ih =>
    cases ls with
    | nil=>simp [blocksF]
    | cons l r =>
      rw [blocksF]
      rw [List.length_cons] at hm
      split
      · have:=ih r.length (by omega) r rfl
        have h2:(c+4) * r.length≤(c+4) * m:=Nat.mul_le_mul_left _ (by omega)
        omega
      · obtain ⟨a1,a2,a3⟩:=step_facts inner c depth hI l r
        generalize stepS inner depth l (l :: r)=X at a1 a2 a3
        rw [List.length_cons] at a2
        have:=ih (r.drop (X.2 - 1)).length (by rw [List.length_drop];omega) _ rfl
        rw [List.length_drop] at this
        have h2:(c+4) * X.2+(c+4) * (r.length - (X.2 - 1))≤(c+4) * m:=by
          rw [← Nat.mul_add]
          exact Nat.mul_le_mul_left _ (by omega)
        rw [List.length_append]
        omega
theorem blocksAt_le (d:Nat) (ls:List (List UInt8)):(blocksAt d ls).length≤(4 * (d+1)) * ls.length:=by
  induction d generalizing ls with
  | zero=>simpa [blocksAt] using blocks_le (fun _=>[]) 0 3 (by simp) ls
  | succ d ih =>
    have:=blocks_le (blocksAt d) (4 * (d+1)) (2 - (d:Int)) ih ls
    rw [blocksAt]
    rw [show 4 * (d+1+1)=4 * (d+1)+4 by omega]
    exact this
end Go.Proofs.YtljcljipppjnoaaGreatDoor
namespace Go.Proofs.YtljcljipppjnoaaGreatDoor
open Go.RowKit
theorem Strs.none {g o cap:Nat} {ls:List (List UInt8)} {w:World} (h:Strs g o cap ls w) (o':Nat) (r:List (List UInt8)) (hr:r.length=0):Strs g o' 0 r w:=by
  have:r=[]:=List.eq_nil_of_length_eq_zero hr
  subst this
  exact ⟨Nat.le_refl _,by omega,h.lt,fun j l hj=>by simp at hj⟩
theorem level_le (l:List UInt8):levelL l≤l.length:=by
  have h:hashes l≤l.length:=(List.takeWhile_sublist (l:=l) _).length_le
  unfold levelL levelS
  simp only
  split
  · exact Nat.zero_le _
  · exact h
set_option maxRecDepth 100000 in
set_option maxHeartbeats 4000000 in
theorem rblocks_any (inner:List (List UInt8)→List Ev) (depth:Int) (hd:0≤depth∧depth≤3) (hB:depth < 3→BlocksC (depth+1) inner) (hI:∀ ls,(inner ls).length≤12 * ls.length):BlocksC depth (blocksF inner depth):=by
  intro v ls0 w hV hM0
  obtain ⟨j0,hj,hy0,hy1,hy2⟩:=info_parts Tryz.infoEv
  rcases hV with ⟨rfl,rfl⟩ | ⟨g,o,cap,rfl,hS⟩
  · have HZ:Hid (blocksF inner depth []=[]):=by show _=_;simp [blocksF]
    go_enter Tryz.func15,Tryz.ntmps15
    go_wp2
    go_loopg [0,5] 1 (fun gk v0 v5 wr=>v0=.slice none 0 0∧v5=.slice none 0 0∧wr=w)
    case atStart=>exact ⟨rfl,rfl,rfl⟩
    case round =>
      obtain ⟨rfl,rfl,rfl⟩:=hrel
      go_wp2
      go_ret
      rw [HZ.out]
      exact ⟨_,rfl,World.ownsRow_nil _ _ _ _,Below.refl _ _⟩
  · have hglt:=hS.lt
    have hB':Hid (depth < 3→BlocksC (depth+1) inner):=hB
    have hI':Hid (∀ ls,(inner ls).length≤12 * ls.length):=hI
    have hlen0:=hM0.1
    clear hB hI
    obtain ⟨hd1,hd2⟩:=hd
    go_enter Tryz.func15,Tryz.ntmps15
    go_wp2
    go_loopg [0,5] ls0.length (fun gk v0 v5 wr=>∃ (o1 cap1:Nat) (ls:List (List UInt8)) (done:List Ev),v0=.slice (some ⟨g,o1,none⟩) ls.length cap1∧ls.length≤gk∧Hid (Strs g o1 cap1 ls w)∧Hid (Small 1073741824 ls)∧wr.ownsRow w.heap.size 83 4 v5 done.length (evCs done)∧Below w.heap.size w wr∧Hid (done++blocksF inner depth ls=blocksF inner depth ls0)∧done.length+16 * ls.length≤16 * ls0.length∧ls.length≤cap1∧cap1≤9223372036854775807)
    case atStart=>exact ⟨o,cap,ls0,[],rfl,Nat.le_refl _,hS,hM0,World.ownsRow_nil _ _ _ _,Below.refl _ _,(by show _=_;rfl),by simp,hS.fits,hS.max⟩
    case round =>
      clear hS hM0
      obtain ⟨o1,cap1,ls,done,rfl,hgk,HS,HM,hown,hbel,hJ,hdl,hc1,hc2⟩:=hrel
      have hbs:=hbel.size
      cases ls with
      | nil =>
        have HF:Hid (blocksF inner depth ls0=done):=by
          show _=_
          rw [← hJ.out]
          simp [blocksF]
        clear hJ
        simp only [List.length_nil] at hdl hgk hc1
        go_wp2
        go_ret
        rw [HF.out]
        exact ⟨_,rfl,hown,hbel⟩
      | cons l r =>
        have hcell:=(HS.out.below hbel hglt).cell 0 l rfl
        rw [Nat.add_zero] at hcell
        have hsz:l.length≤1073741824:=HM.out.2 l (by simp)
        have hcB:=fun W=>rBlank_any ⟨l.toArray⟩ W (by rw [size_of];omega)
        have hbl:blankS ⟨l.toArray⟩=blankL l:=rfl
        rw [hbl] at hcB
        simp only [List.length_cons] at hdl hgk hc1
        have hL:(l :: r).length=r.length+1:=rfl
        rw [hL]
        cases hbb:blankL l with
        | true =>
          rw [hbb] at hcB
          have HN:Hid (done++blocksF inner depth r=blocksF inner depth ls0):=by
            show _=_
            rw [← hJ.out,blocksF,if_pos hbb]
          clear hbb hbl hJ hL
          go_wp2_with (go_at_call 36;refine (hcB _).mono ?_;rintro e w' ⟨rfl,hw⟩;rw [hw];clear hw)
          all_goals
            go_roundg r.length
            case measure=>omega
            case rel=>first | exact ⟨o1+1,cap1 - 1,r,done,rfl,Nat.le_refl _,HS.out.drop 1 (by simp),HM.out.drop 1,hown,hbel,HN,by omega,by omega,by omega⟩ | exact ⟨o1,0,r,done,rfl,Nat.le_refl _,HS.out.none o1 r (by omega),HM.out.drop 1,hown,hbel,HN,by omega,by omega,by omega⟩
        | false =>
          rw [hbb] at hcB
          obtain ⟨X,hX⟩:∃ X,stepS inner depth l (l :: r)=X:=⟨_,rfl⟩
          have hfa:=step_facts inner 12 depth hI'.out l r
          rw [hX,hL] at hfa
          obtain ⟨hx1,hx2,hx3⟩:=hfa
          have HN:Hid (done++(X.1++blocksF inner depth (r.drop (X.2 - 1)))=blocksF inner depth ls0):=by
            show _=_
            rw [← hJ.out,← hX]
            conv=>rhs;rw [blocksF,if_neg (by simp [hbb])]
          have hcS:=fun W=>rstarts_any ⟨l.toArray⟩ depth W (by rw [size_of];omega)
          have hsn:=starts_nat ⟨l.toArray⟩ depth
          obtain ⟨sv,hsv⟩:∃ sv,startsS ⟨l.toArray⟩ depth=sv:=⟨_,rfl⟩
          have h4:=starts4 ⟨l.toArray⟩ depth
          have h5:=starts5 ⟨l.toArray⟩ depth
          have h3:=starts3 ⟨l.toArray⟩ depth
          have HX:Hid (X=stepS inner depth l (l :: r)∧startsS ⟨l.toArray⟩ depth=sv):=⟨hX.symm,hsv⟩
          rw [hsv] at hcS hsn h4 h5 h3
          clear hX hJ hbb hbl
          go_upto_block 2 with (first | (go_at_call 36;refine (hcB _).mono ?_;rintro e w' ⟨rfl,hw⟩;rw [hw];clear hw) | (go_at_call 37;refine (hcS _).mono ?_;rintro e w' ⟨rfl,hw⟩;rw [hw];clear hw))
          go_cut [8,9] (fun v8 v9 wx=>wx.ownsRow wr.heap.size 83 4 v8 X.1.length (evCs X.1)∧v9=.int .i64 X.2∧Below wr.heap.size wr wx)
          case first =>
            have hq:sv=2∨sv=3∨sv=4∨sv=5∨(sv ≠ 2∧sv ≠ 3∧sv ≠ 4∧sv ≠ 5):=by omega
            rcases hq with rfl | rfl | rfl | rfl | ⟨q2,q3,q4,q5⟩
            · have hE:Hid (X=(leafS 5 0 (fencedT (l :: r)),fencedN (l :: r))):=by show _=_;rw [HX.out.1,stepS,if_pos HX.out.2]
              have hc:=rfenced_any g o1 cap1 (l :: r) wr (HS.out.below hbel hglt) HM.out (by simp)
              rw [hL] at hc
              replace hc:Calls Tryz.prog 38 #[.slice (some ⟨g,o1,none⟩) (r.length+1) cap1] wr (fun e w'=>∃ v,e=.returned (.tuple #[v,.int .i64 X.2])∧w'.ownsRow wr.heap.size 83 4 v X.1.length (evCs X.1)∧Below wr.heap.size wr w'):=by rw [hE.out];exact hc
              clear hE HX h3 h4 h5
              go_wp2_with (go_at_call 38;refine hc.mono ?_;rintro e w1 ⟨v,rfl,own1,bel1⟩)
              go_meet
              exact ⟨own1,rfl,bel1⟩
            · have hp:=h3 rfl
              have hE:Hid (X=(leafS 1 (levelL l) (trimL (l.drop (levelL l))),1)):=by show _=_;rw [HX.out.1,stepS,if_neg (by rw [HX.out.2];decide),if_pos HX.out.2]
              have hcL:=fun W=>rlevel_any ⟨l.toArray⟩ W (by rw [size_of];omega)
              have hlv:levelS ⟨l.toArray⟩=levelL l:=rfl
              have hle:=level_le l
              rw [hlv] at hcL hp
              generalize levelL l=k at hcL hp hE hle
              have hx:=ba_ext l k l.length rfl
              have hs2:=size_of l
              have hcT:=fun W=>rtrim_any ⟨(l.drop k).toArray⟩ W (by rw [size_of,List.length_drop];omega)
              have hts:trimS ⟨(l.drop k).toArray⟩=⟨(trimL (l.drop k)).toArray⟩:=rfl
              rw [hts,← hx] at hcT
              have hcF:∀ W,Calls Tryz.prog 41 #[.int .i64 1,.int .i64 k,.string ⟨(trimL (l.drop k)).toArray⟩] W (fun e w'=>∃ v,e=.returned v∧w'.ownsRow W.heap.size 83 4 v X.1.length (evCs X.1)∧Below W.heap.size W w'):=by
                intro W
                rw [hE.out]
                exact rleaf_any 1 k ⟨(trimL (l.drop k)).toArray⟩ W
              have hX1:Hid (X.2=1):=by show _=_;rw [hE.out]
              generalize trimL (l.drop k)=tl at hcF hcT hts hE
              clear hE HX h3 h4 h5 hts hlv hx
              go_wp2_with (first | (go_at_call 39;refine (hcL _).mono ?_;rintro e w' ⟨rfl,hw⟩;rw [hw];clear hw) | (go_at_call 40;refine (hcT _).mono ?_;rintro e w' ⟨rfl,hw⟩;rw [hw];clear hw) | (go_at_call 41;refine (hcF _).mono ?_;rintro e w1 ⟨v,rfl,own1,bel1⟩))
              go_meet
              exact ⟨own1,by rw [hX1.out];rfl,bel1⟩
            · have hE:Hid (X=(quoteS inner (l :: r),quoteN (l :: r))):=by show _=_;rw [HX.out.1,stepS,if_neg (by rw [HX.out.2];decide),if_neg (by rw [HX.out.2];decide),if_pos HX.out.2]
              have hlt:=(h4 rfl).2
              have hc:=rquoted_any inner depth ⟨hd1,hlt⟩ (hB'.out hlt) (fun ls=>by have:=hI'.out ls;omega) g o1 cap1 (l :: r) wr (HS.out.below hbel hglt) HM.out
              rw [hL] at hc
              replace hc:Calls Tryz.prog 42 #[.slice (some ⟨g,o1,none⟩) (r.length+1) cap1,.int .i64 depth] wr (fun e w'=>∃ v,e=.returned (.tuple #[v,.int .i64 X.2])∧w'.ownsRow wr.heap.size 83 4 v X.1.length (evCs X.1)∧Below wr.heap.size wr w'):=by rw [hE.out];exact hc
              clear hE HX h3 h4 h5
              go_wp2_with (go_at_call 42;refine hc.mono ?_;rintro e w1 ⟨v,rfl,own1,bel1⟩)
              go_meet
              exact ⟨own1,rfl,bel1⟩
            · have hE:Hid (X=(listS inner (l :: r),listN inner (l :: r))):=by show _=_;rw [HX.out.1,stepS,if_neg (by rw [HX.out.2];decide),if_neg (by rw [HX.out.2];decide),if_neg (by rw [HX.out.2];decide),if_pos HX.out.2]
              have hlt:=(h5 rfl).2
              have hc:=rlisted_any inner depth ⟨hd1,hlt⟩ (hB'.out hlt) (fun ls=>by have:=hI'.out ls;omega) g o1 cap1 (l :: r) wr (HS.out.below hbel hglt) HM.out (by simp)
              rw [hL] at hc
              replace hc:Calls Tryz.prog 43 #[.slice (some ⟨g,o1,none⟩) (r.length+1) cap1,.int .i64 depth] wr (fun e w'=>∃ v,e=.returned (.tuple #[v,.int .i64 X.2])∧w'.ownsRow wr.heap.size 83 4 v X.1.length (evCs X.1)∧Below wr.heap.size wr w'):=by rw [hE.out];exact hc
              clear hE HX h3 h4 h5
              go_wp2_with (go_at_call 43;refine hc.mono ?_;rintro e w1 ⟨v,rfl,own1,bel1⟩)
              go_meet
              exact ⟨own1,rfl,bel1⟩
            · have hE:Hid (X=(leafS 0 0 (joinT ((l :: r).take (paraFrom (l :: r) depth 1))),paraFrom (l :: r) depth 1)):=by show _=_;rw [HX.out.1,stepS,if_neg (by rw [HX.out.2];exact q2),if_neg (by rw [HX.out.2];exact q3),if_neg (by rw [HX.out.2];exact q4),if_neg (by rw [HX.out.2];exact q5)]
              have hc:=rpara_any g o1 cap1 (l :: r) depth wr (HS.out.below hbel hglt) HM.out (by simp)
              rw [hL] at hc
              replace hc:Calls Tryz.prog 44 #[.slice (some ⟨g,o1,none⟩) (r.length+1) cap1,.int .i64 depth] wr (fun e w'=>∃ v,e=.returned (.tuple #[v,.int .i64 X.2])∧w'.ownsRow wr.heap.size 83 4 v X.1.length (evCs X.1)∧Below wr.heap.size wr w'):=by rw [hE.out];exact hc
              have e2:(sv == 2)=false:=by simpa using q2
              have e3:(sv == 3)=false:=by simpa using q3
              have e4:(sv == 4)=false:=by simpa using q4
              have e5:(sv == 5)=false:=by simpa using q5
              clear hE HX h3 h4 h5 q2 q3 q4 q5
              go_wp2_with (go_at_call 44;refine hc.mono ?_;rintro e w1 ⟨v,rfl,own1,bel1⟩)
              go_meet
              exact ⟨own1,rfl,bel1⟩
          case rest =>
            obtain ⟨own1,rfl,bel1⟩:=hcut
            have z1:=bel1.size
            have own0:=own_below hown bel1 (Nat.le_refl _)
            have B1:Below w.heap.size w wc:=hbel.trans (bel1.mono hbs)
            obtain ⟨n,hn⟩:∃ n,X.2=n:=⟨_,rfl⟩
            obtain ⟨ev,hev⟩:∃ ev,X.1=ev:=⟨_,rfl⟩
            rw [hn] at hx1 hx2 hx3 HN
            rw [hev] at hx3 HN own1
            rw [hn]
            clear HX h3 h4 h5 hcS hcB hn hev hsv hsn
            go_wp2_with (at_builtin;refine wpList_append_row _ rfl _ _ 27 rfl w.heap.size wr.heap.size 83 j0 (.agg #[.int .i64 0,.bool false,.int .i64 0,.string ⟨#[]⟩]) 4 40 Tryz.underlying27 hj hy0 hy1 hy2 rfl (by decide) _ _ _ rfl own0 _ _ _ rfl own1 (evCs_one' _) ?f3 ?f4 ?f5 ?_)
            case f3=>unfold maxLen;omega
            case f4=>omega
            case f5=>omega
            intro v5 w5 own5 grow5
            have B5:Below w.heap.size w w5:=B1.grown grow5 (by omega) (fun b hb=>(own0.lt b hb).1)
            have HD:Hid ((l :: r).drop n=r.drop (n - 1)∧(r.drop (n - 1)).length=r.length+1 - n):=by
              refine ⟨?_,by rw [List.length_drop];omega⟩
              obtain ⟨m,rfl⟩:∃ m,n=m+1:=⟨n - 1,by omega⟩
              simp
            have HS2:Hid (Strs g (o1+n) (cap1 - n) (r.drop (n - 1)) w):=by
              have:=HS.out.drop n (by rw [hL];exact hx2)
              rw [HD.out.1] at this
              exact this
            have HM2:Hid (Small 1073741824 (r.drop (n - 1))):=by
              have:=HM.out.drop n
              rw [HD.out.1] at this
              exact this
            have HN2:Hid ((done++ev)++blocksF inner depth (r.drop (n - 1))=blocksF inner depth ls0):=by
              show _=_
              rw [List.append_assoc]
              exact HN.out
            have hlen2:=HD.out.2
            have own6:w5.ownsRow w.heap.size 83 4 v5 (done++ev).length (evCs (done++ev)):=by
              rw [List.length_append,evCs_append]
              exact own5
            generalize r.drop (n - 1)=r2 at HD HS2 HM2 HN2 hlen2
            have hv1:Hid (Value.slice (some ⟨g,o1+n,none⟩) (r.length+1 - n) (cap1 - n)=Value.slice (some ⟨g,o1+n,none⟩) r2.length (cap1 - n)):=by show _=_;rw [hlen2]
            have hv2:Hid (Value.slice (some ⟨g,o1,none⟩) (r.length+1 - n) 0=Value.slice (some ⟨g,o1,none⟩) r2.length 0):=by show _=_;rw [hlen2]
            clear own0 own1 bel1 grow5 own5 HN HS HM HD
            go_wp2
            all_goals
              go_roundg r2.length
              case measure=>omega
              case rel=>first | exact ⟨o1+n,cap1 - n,r2,done++ev,hv1.out,Nat.le_refl _,HS2,HM2,own6,B5,HN2,by rw [List.length_append];omega,by omega,by omega⟩ | exact ⟨o1,0,r2,done++ev,hv2.out,Nat.le_refl _,HS2.out.none o1 r2 (by omega),HM2,own6,B5,HN2,by rw [List.length_append];omega,by omega,by omega⟩
end Go.Proofs.YtljcljipppjnoaaGreatDoor
namespace Go.Proofs.YtljcljipppjnoaaGreatDoor
open Go.RowKit
theorem rblocks_at (d:Nat) (hd:d≤3):BlocksC (3 - (d:Int)) (blocksAt d):=by
  induction d with
  | zero=>exact rblocks_any (fun _=>[]) 3 ⟨by decide,by decide⟩ (fun h=>absurd h (by decide)) (fun ls=>by simp)
  | succ d ih =>
    have h:=rblocks_any (blocksAt d) (2 - (d:Int)) ⟨by omega,by omega⟩ (fun _=>by
      rw [show (2 - (d:Int)+1)=3 - (d:Int) by omega]
      exact ih (by omega)) (fun ls=>Nat.le_trans (blocksAt_le d ls) (Nat.mul_le_mul_right _ (by omega)))
    rw [show (3 - ((d+1:Nat):Int))=2 - (d:Int) by omega]
    exact h
theorem rblocks_doc:BlocksC 0 (blocksAt 3):=by simpa using rblocks_at 3 (Nat.le_refl _)
end Go.Proofs.YtljcljipppjnoaaGreatDoor
namespace Go.Proofs.YtljcljipppjnoaaGreatDoor
open Go.RowKit
def tot (ls:List (List UInt8)):Nat:=(ls.map fun l=>l.length+1).sum
theorem tot_nil:tot []=0:=rfl
theorem tot_cons (l:List UInt8) (r:List (List UInt8)):tot (l :: r)=l.length+1+tot r:=by simp [tot]
theorem tot_append (a b:List (List UInt8)):tot (a++b)=tot a+tot b:=by simp [tot]
theorem tot_split (ls:List (List UInt8)) (n:Nat):tot (ls.take n)+tot (ls.drop n)=tot ls:=by
  rw [← tot_append,List.take_append_drop]
theorem tot_drop (ls:List (List UInt8)) (n:Nat):tot (ls.drop n)≤tot ls:=by have:=tot_split ls n;omega
theorem tot_take (ls:List (List UInt8)) (n:Nat):tot (ls.take n)≤tot ls:=by have:=tot_split ls n;omega
theorem tot_len (ls:List (List UInt8)):ls.length≤tot ls:=by
  induction ls with
  | nil=>exact Nat.le_refl _
  | cons l r ih=>rw [tot_cons,List.length_cons];omega
theorem tot_mem {ls:List (List UInt8)} {l:List UInt8} (h:l ∈ ls):l.length≤tot ls:=by
  induction ls with
  | nil=>cases h
  | cons a r ih =>
    rw [tot_cons]
    rcases List.mem_cons.1 h with rfl | h
    · omega
    · have:=ih h;omega
theorem tot_small {ls:List (List UInt8)} {M:Nat} (h:tot ls≤M):Small M ls:=⟨Nat.le_trans (tot_len ls) h,fun _ hl=>Nat.le_trans (tot_mem hl) h⟩
theorem tot_map (f:List UInt8→List UInt8) (hf:∀ l,(f l).length≤l.length) (ls:List (List UInt8)):tot (ls.map f)≤tot ls:=by
  induction ls with
  | nil=>exact Nat.le_refl _
  | cons l r ih=>rw [List.map_cons,tot_cons,tot_cons];have:=hf l;omega
theorem tot_quote (ls:List (List UInt8)):tot (quoteIn ls)≤tot ls:=Nat.le_trans (tot_map unq unq_le _) (tot_take ls _)
theorem tot_rep (n:Nat):tot (List.replicate n [])=n:=by
  induction n with
  | zero=>rfl
  | succ n ih=>rw [List.replicate_succ,tot_cons,ih];simp;omega
theorem tot_more (ls:List (List UInt8)) (n:Nat) (hn:n≤ls.length):tot (moreAt ls n).1≤tot (ls.drop n):=by
  induction hm:ls.length - n using Nat.strongRecOn generalizing n with
  | _ m ih =>
    have hge:=behind_ge ls n
    by_cases h:behindS ls n < ls.length
    · cases h2:two ls[behindS ls n] with
      | true =>
        have a:=ih (ls.length - (behindS ls n+1)) (by omega) (behindS ls n+1) (by omega) rfl
        rw [more_go ls n _ rfl h h2,tot_append,tot_rep,tot_cons]
        generalize behindS ls n=k at h a hge ⊢
        have e1:ls.drop n=(ls.drop n).take (k - n)++ls[k] :: ls.drop (k+1):=by
          have:=List.take_append_drop (k - n) (ls.drop n)
          rw [List.drop_drop,show n+(k - n)=k by omega,List.drop_eq_getElem_cons h] at this
          exact this.symm
        rw [e1,tot_append,tot_cons]
        have h3:=tot_len ((ls.drop n).take (k - n))
        rw [List.length_take,List.length_drop] at h3
        have h4:(ls[k].drop 2).length≤ls[k].length:=by rw [List.length_drop];omega
        omega
      | false =>
        rw [more_no ls n _ rfl h h2]
        exact Nat.zero_le _
    · rw [more_end ls n _ rfl h]
      exact Nat.zero_le _
theorem tot_item (ls:List (List UInt8)) (n:Nat) (hn:n < ls.length):tot (itemIn ls n)≤tot ls:=by
  have h1:=tot_more ls (n+1) (by omega)
  have h2:=tot_split ls n
  rw [List.drop_eq_getElem_cons hn,tot_cons] at h2
  rw [itemIn,tot_cons,List.getElem?_eq_getElem hn,Option.getD_some,List.length_drop]
  omega
theorem codeOf_len (ls:List (List UInt8)):(codeOf ls).length=tot ls:=by
  induction ls with
  | nil=>rfl
  | cons l r ih =>
    have:codeOf (l :: r)=(l++[10])++codeOf r:=by simp [codeOf]
    rw [this,tot_cons,List.length_append,ih]
    simp
theorem joinT_join (ls:List (List UInt8)):joinT ls=Lib.join (ls.map trimL) [10]:=by
  induction ls with
  | nil=>rfl
  | cons l r ih =>
    cases r with
    | nil=>simp [joinT,Lib.join,List.intercalate]
    | cons a b =>
      simp only [joinT,Lib.join,List.intercalate] at ih ⊢
      simpa using ih
theorem joinT_len (ls:List (List UInt8)):(joinT ls).length≤tot ls:=by
  cases ls with
  | nil=>exact Nat.zero_le _
  | cons l r =>
    have h:∀ r:List (List UInt8),(r.flatMap fun x=>10 :: trimL x).length≤tot r:=by
      intro r
      induction r with
      | nil=>exact Nat.le_refl _
      | cons x t ih =>
        rw [List.flatMap_cons,List.length_append,List.length_cons,tot_cons]
        have:=trimL_le x
        omega
    have h1:=h r
    have h2:=trimL_le l
    rw [joinT,List.length_append,tot_cons]
    omega
def linesAll:List UInt8→List UInt8→List (List UInt8)
  | cur,[]=>[cur]
  | cur,c :: r=>if c=10 then cur :: linesAll [] r else linesAll (cur++[c]) r
theorem la_ne (cur l:List UInt8):linesAll cur l ≠ []:=by
  induction l generalizing cur with
  | nil=>simp [linesAll]
  | cons c r ih =>
    rw [linesAll]
    split
    · simp
    · exact ih _
theorem lines_all (cur l:List UInt8):linesL cur l=if (linesAll cur l).getLast?=some [] then (linesAll cur l).dropLast else linesAll cur l:=by
  induction l generalizing cur with
  | nil =>
    by_cases h:cur=[] <;> simp [linesL,linesAll,h]
  | cons c r ih =>
    rw [linesL,linesAll]
    by_cases hc:c=10
    · rw [if_pos hc,if_pos hc,ih]
      have hne:=la_ne [] r
      generalize linesAll [] r=t at hne
      cases t with
      | nil=>exact absurd rfl hne
      | cons a b =>
        rw [List.getLast?_cons_cons,List.dropLast_cons_cons]
        split <;> rfl
    · rw [if_neg hc,if_neg hc,ih]
theorem tot_all (cur l:List UInt8):tot (linesAll cur l)=cur.length+l.length+1:=by
  induction l generalizing cur with
  | nil=>simp [linesAll,tot]
  | cons c r ih =>
    rw [linesAll]
    split
    · rw [tot_cons,ih];simp;omega
    · rw [ih];simp;omega
theorem tot_lines (l:List UInt8):tot (linesL [] l)≤l.length+1:=by
  rw [lines_all]
  have h:=tot_all [] l
  simp only [List.length_nil,Nat.zero_add] at h
  split
  · rw [List.dropLast_eq_take]
    exact Nat.le_trans (tot_take _ _) (by omega)
  · omega
end Go.Proofs.YtljcljipppjnoaaGreatDoor
namespace Go.Proofs.YtljcljipppjnoaaGreatDoor
open Go.RowKit
theorem leaf_text (k v:Int) (t:List UInt8) (M:Nat) (h:t.length≤M):∀ e ∈ leafS k v t,e.text.length≤M:=by
  intro e he
  unfold leafS at he
  simp only [List.mem_append,List.mem_singleton] at he
  rcases he with (rfl | he) | rfl
  · simp
  · split at he
    · cases he
    · simp at he
      subst he
      exact h
  · simp
theorem items_text (inner:List (List UInt8)→List Ev) (hI:∀ ls,∀ e ∈ inner ls,e.text.length≤tot ls) (ls:List (List UInt8)) (n:Nat) (hn:n < ls.length):∀ e ∈ (itemsAt inner ls n).1,e.text.length≤tot ls:=by
  induction hm:ls.length - n using Nat.strongRecOn generalizing n with
  | _ m ih =>
    have hev:∀ e ∈ itemEv inner ls n,e.text.length≤tot ls:=by
      intro e he
      simp only [itemEv,List.mem_append,List.mem_singleton] at he
      rcases he with (rfl | he) | rfl
      · simp
      · exact Nat.le_trans (hI _ e he) (tot_item ls n hn)
      · simp
    have hge:=behind_ge ls (moreAt ls (n+1)).2
    have hmg:=more_ge ls (n+1)
    by_cases h:behindS ls (moreAt ls (n+1)).2 < ls.length
    · cases h2:itemL ls[behindS ls (moreAt ls (n+1)).2] with
      | true =>
        rw [items_go inner ls n _ rfl h h2]
        intro e he
        simp only [List.mem_append] at he
        rcases he with he | he
        · exact hev e he
        · exact ih _ (by omega) _ h rfl e he
      | false=>rw [items_no inner ls n _ rfl h h2];exact hev
    · rw [items_end inner ls n _ rfl h];exact hev
theorem step_text (inner:List (List UInt8)→List Ev) (hI:∀ ls,∀ e ∈ inner ls,e.text.length≤tot ls) (depth:Int) (l:List UInt8) (r:List (List UInt8)):(∀ e ∈ (stepS inner depth l (l :: r)).1,e.text.length≤tot (l :: r))∧∀ e,(stepS inner depth l (l :: r)).1.head?=some e→e.kind ≠ 8:=by
  have hlh:∀ k v t (e:Ev),k ≠ 8→(leafS k v t).head?=some e→e.kind ≠ 8:=by
    intro k v t e hk he
    simp [leafS] at he
    subst he
    exact hk
  unfold stepS
  split
  · refine ⟨leaf_text _ _ _ _ ?_,fun e he=>hlh _ _ _ e (by decide) he⟩
    rw [fencedT,codeOf_len]
    exact Nat.le_trans (tot_drop _ _) (tot_take _ _)
  split
  · refine ⟨leaf_text _ _ _ _ ?_,fun e he=>hlh _ _ _ e (by decide) he⟩
    have h1:=trimL_le (l.drop (levelL l))
    rw [List.length_drop] at h1
    rw [tot_cons]
    omega
  split
  · refine ⟨fun e he=>?_,fun e he=>?_⟩
    · simp only [quoteS,List.mem_append,List.mem_singleton] at he
      rcases he with (rfl | he) | rfl
      · simp
      · exact Nat.le_trans (hI _ e he) (tot_quote _)
      · simp
    · simp [quoteS] at he
      subst he
      decide
  split
  · refine ⟨fun e he=>?_,fun e he=>?_⟩
    · simp only [listS,List.mem_append,List.mem_singleton] at he
      rcases he with (rfl | he) | rfl
      · simp
      · exact items_text inner hI _ 0 (by simp) e he
      · simp
    · simp [listS] at he
      subst he
      decide
  · refine ⟨leaf_text _ _ _ _ ?_,fun e he=>hlh _ _ _ e (by decide) he⟩
    exact Nat.le_trans (joinT_len _) (tot_take _ _)
theorem blocks_text (inner:List (List UInt8)→List Ev) (hI:∀ ls,∀ e ∈ inner ls,e.text.length≤tot ls) (depth:Int) (ls:List (List UInt8)):(∀ e ∈ blocksF inner depth ls,e.text.length≤tot ls)∧∀ e,(blocksF inner depth ls).head?=some e→e.kind ≠ 8:=by
  induction hm:ls.length using Nat.strongRecOn generalizing ls with
  | _ m ih =>
    cases ls with
    | nil=>simp [blocksF]
    | cons l r =>
      rw [blocksF]
      rw [List.length_cons] at hm
      split
      · obtain ⟨i1,i2⟩:=ih r.length (by omega) r rfl
        exact ⟨fun e he=>by have:=i1 e he;rw [tot_cons];omega,i2⟩
      · obtain ⟨s1,s2⟩:=step_text inner hI depth l r
        have hne:(stepS inner depth l (l :: r)).1 ≠ []:=by
          unfold stepS
          split
          · simp [leafS]
          split
          · simp [leafS]
          split
          · simp [quoteS]
          split
          · simp [listS]
          · simp [leafS]
        generalize stepS inner depth l (l :: r)=X at s1 s2 hne
        have hd:(r.drop (X.2 - 1)).length≤r.length:=by rw [List.length_drop];omega
        obtain ⟨i1,i2⟩:=ih (r.drop (X.2 - 1)).length (by omega) _ rfl
        refine ⟨fun e he=>?_,fun e he=>?_⟩
        · rcases List.mem_append.1 he with he | he
          · exact s1 e he
          · have:=i1 e he
            have:=tot_drop r (X.2 - 1)
            rw [tot_cons]
            omega
        · have hh:(X.1++blocksF inner depth (r.drop (X.2 - 1))).head?=X.1.head?:=by
            cases h:X.1 with
            | nil=>exact absurd h hne
            | cons a b=>rfl
          rw [hh] at he
          exact s2 e he
theorem blocksAt_text (d:Nat) (ls:List (List UInt8)):(∀ e ∈ blocksAt d ls,e.text.length≤tot ls)∧∀ e,(blocksAt d ls).head?=some e→e.kind ≠ 8:=by
  induction d generalizing ls with
  | zero=>exact blocks_text (fun _=>[]) (fun _ e he=>by cases he) 3 ls
  | succ d ih=>exact blocks_text (blocksAt d) (fun ls=>(ih ls).1) (2 - (d:Int)) ls
def evAt (l:List Ev) (i:Nat):List Ev :=
  match l[i]? with
  | some e=>if e.kind=8∧l[i - 1]?.map (fun x=>x.kind) ≠ some 5 then inlineS e.text false else [e]
  | none=>[]
def evUpto (l:List Ev) (k:Nat):List Ev:=(List.range k).flatMap (evAt l)
theorem evUpto_succ (l:List Ev) (k:Nat):evUpto l (k+1)=evUpto l k++evAt l k:=by
  simp [evUpto,List.range_succ]
def eventsS (t:List UInt8):List Ev:=evUpto (blocksAt 3 (linesL [] t)) (blocksAt 3 (linesL [] t)).length
end Go.Proofs.YtljcljipppjnoaaGreatDoor
namespace Go.Proofs.YtljcljipppjnoaaGreatDoor
open Go.RowKit
theorem evAt_len (l:List Ev) (M:Nat) (h:∀ e ∈ l,e.text.length≤M) (i:Nat):(evAt l i).length≤2 * M+1:=by
  unfold evAt
  cases hi:l[i]? with
  | none=>simp
  | some e =>
    simp only
    split
    · have h1:=(inlF_facts (e.text.length+1)).1 e.text false
      have h2:=h e (List.mem_of_getElem? hi)
      unfold inlineS
      omega
    · simp
theorem evUpto_len (l:List Ev) (M:Nat) (h:∀ e ∈ l,e.text.length≤M) (k:Nat):(evUpto l k).length≤(2 * M+1) * k:=by
  induction k with
  | zero=>simp [evUpto]
  | succ k ih =>
    rw [evUpto_succ,List.length_append,Nat.mul_succ]
    have:=evAt_len l M h k
    omega
set_option maxRecDepth 100000 in
set_option maxHeartbeats 4000000 in
theorem revents_any (t:List UInt8) (w:World) (ht:t.length≤8192) :
    Calls Tryz.prog 51 #[.string ⟨t.toArray⟩] w fun e w'=>∃ v,e=.returned v∧w'.ownsRow w.heap.size 83 4 v (eventsS t).length (evCs (eventsS t))∧Below w.heap.size w w':=by
  obtain ⟨j0,hj,hy0,hy1,hy2⟩:=info_parts Tryz.infoEv
  have c1:=fun w=>rlines_any ⟨t.toArray⟩ w (by rw [size_of];omega)
  have e1:(⟨t.toArray⟩:ByteArray).data.toList=t:=rfl
  rw [e1] at c1
  have htl:=tot_lines t
  have hll:=tot_len (linesL [] t)
  have c2:=fun v w (h:LinesV v (linesL [] t) w)=>rblocks_doc v (linesL [] t) w h (tot_small (by omega))
  have hbl:=blocksAt_le 3 (linesL [] t)
  obtain ⟨hbt,hbh⟩:=blocksAt_text 3 (linesL [] t)
  unfold eventsS
  generalize blocksAt 3 (linesL [] t)=bl at c2 hbl hbt hbh ⊢
  have hbn:bl.length≤131088:=by omega
  have hbt2:∀ e ∈ bl,e.text.length≤8193:=fun e he=>by have:=hbt e he;omega
  have hup:=evUpto_len bl 8193 hbt2
  generalize linesL [] t=ls at c1 c2 hbl htl hll hbt
  obtain ⟨R,hR⟩:∃ R,evUpto bl bl.length=R:=⟨_,rfl⟩
  rw [hR]
  have HR:Hid (evUpto bl bl.length=R):=hR
  have HBT:Hid (∀ e ∈ bl,e.text.length≤8193):=hbt2
  have HBH:Hid (∀ e,bl.head?=some e→e.kind ≠ 8):=hbh
  have HUP:Hid (∀ k,(evUpto bl k).length≤(2 * 8193+1) * k):=hup
  clear e1 htl hll hbl hbt hbh hbt2 hup hR
  have c3:∀ v w,LinesV v ls w→Calls Tryz.prog 15 #[v,.int .i64 0] w fun e w'=>∃ a cap,e=.returned (.slice a bl.length cap)∧(∀ (j:Nat) u,(evCs bl)[j]?=some u→∃ g,a=some ⟨g,0,none⟩∧g < w'.heap.size∧w'.cell? ⟨g,j,none⟩=some u)∧Below w.heap.size w w':=by
    intro v w h
    refine (c2 v w h).mono ?_
    rintro e w' ⟨vb,rfl,own,b⟩
    rcases Joins.ownsRow_forms own with ⟨rfl,h0⟩ | ⟨g,cap,rfl⟩
    · refine ⟨none,0,by rw [h0],fun j u hu=>?_,b⟩
      have:bl=[]:=List.eq_nil_of_length_eq_zero h0
      subst this
      simp [evCs] at hu
    · refine ⟨some ⟨g,0,none⟩,cap,rfl,fun j u hu=>⟨g,rfl,(own.lt g rfl).2,?_⟩,b⟩
      have:=own.cells (g:=g) rfl j u hu
      rw [Addr.add_lit] at this
      simpa using this
  clear c2
  go_enter Tryz.func51,Tryz.ntmps51
  go_wp2_with (first | (go_at_call 14;refine (c1 _).mono ?_;rintro e w1 ⟨v1,rfl,own1,b1⟩) | (go_at_call 15;refine (c3 v1 _ (lines_own own1)).mono ?_;rintro e w2 ⟨a,cap,rfl,hcells,b2⟩))
  have s1:=b1.size
  have s2:=b2.size
  have HB2:Hid (Below w.heap.size w w2):=b1.trans (b2.mono s1)
  have HCL:Hid _:=hcells
  clear c1 c3 own1 b1 b2 hcells
  go_loopw [5,6] (fun v5 v6 wr=>∃ k:Nat,k≤bl.length∧v6=.int .i64 k∧wr.ownsRow w2.heap.size 83 4 v5 (evUpto bl k).length (evCs (evUpto bl k))∧Below w2.heap.size w2 wr) (fun _ v6 _=>bl.length - (intOf v6).toNat)
  case atStart=>exact ⟨0,Nat.zero_le _,rfl,by simpa [evCs,evUpto] using World.ownsRow_nil _ _ _ _,Below.refl _ _⟩
  case round =>
    obtain ⟨k,hk,rfl,hown,hbel⟩:=hrel
    have hbs:=hbel.size
    have hlk:=HUP.out k
    have hlk2:(2 * 8193+1) * k≤(2 * 8193+1) * 131088:=Nat.mul_le_mul_left _ (by omega)
    by_cases hlt:k < bl.length
    · obtain ⟨ev,hev⟩:∃ ev,bl[k]?=some ev:=⟨bl[k],List.getElem?_eq_getElem hlt⟩
      obtain ⟨q0,q1,q2,q3⟩:=evCs_at bl k ev hev
      obtain ⟨g,rfl,hg,c0⟩:=HCL.out _ _ q0
      have cc:∀ j u,(evCs bl)[j]?=some u→wr.cell? ⟨g,j,none⟩=some u:=fun j u hu=>by
        obtain ⟨g',he,_,hc⟩:=HCL.out j u hu
        cases he
        exact (hbel.cell (p:=⟨g,j,none⟩) hg).trans hc
      replace c0:=cc _ _ q0
      have c1:=cc _ _ q1
      have c2:=cc _ _ q2
      have c3:=cc _ _ q3
      have htx:=HBT.out ev (List.mem_of_getElem? hev)
      have hsu:=evUpto_succ bl k
      have hea:evAt bl k=if ev.kind=8∧bl[k - 1]?.map (fun x=>x.kind) ≠ some 5 then inlineS ev.text false else [ev]:=by unfold evAt;rw [hev]
      have hlen3:(evUpto bl k).length≤2148139056:=by omega
      clear hlk hlk2
      by_cases h8:ev.kind=8
      · have hk0:k ≠ 0:=by
          intro h
          subst h
          exact HBH.out ev (by rw [List.head?_eq_getElem?];exact hev) h8
        obtain ⟨k',rfl⟩:∃ k',k=k'+1:=⟨k - 1,by omega⟩
        obtain ⟨pv,hpv⟩:∃ pv,bl[k']?=some pv:=⟨bl[k'],List.getElem?_eq_getElem (by omega)⟩
        have p0:=cc _ _ (evCs_at bl k' pv hpv).1
        rw [Nat.add_sub_cancel,hpv] at hea
        rw [h8] at c0
        by_cases h5:pv.kind=5
        · rw [if_neg (by simp [h5])] at hea
          have HU:Hid (evUpto bl (k'+1+1)=evUpto bl (k'+1)++[ev]):=by show _=_;rw [hsu,hea]
          have c0':wr.cell? ⟨g,(k'+1) * 4,none⟩=some (.int .i64 ev.kind):=by rw [h8];exact c0
          rw [h5] at p0
          have hg5:((5:Int) != 5)=false:=rfl
          rw [← h8] at c0
          clear hsu hea hev hpv q0 q1 q2 q3 cc c0' HCL
          have hk8:(ev.kind == 8)=true:=by rw [h8];rfl
          clear h8
          go_wp2_with (at_builtin;refine wpList_append_own _ rfl _ _ 27 rfl w2.heap.size 83 j0 (.agg #[.int .i64 0,.bool false,.int .i64 0,.string ⟨#[]⟩]) 4 40 Tryz.underlying27 hj hy0 hy1 hy2 rfl (by decide) _ _ _ rfl (hown.alloc _) ⟨wr.heap.size,0,none⟩ 1 1 (evCells ev) rfl rfl (ev_cell _ _ _ rfl) (ev_one _) (by unfold maxLen;omega) (by omega) (by simp;omega) ?_;intro v' w3 own3 grow3 _)
          go_roundw
          case rel =>
            refine ⟨k'+1+1,by omega,by go_num,?_,(hbel.alloc hbs _).grown grow3 (by simp;omega) (fun b hb=>(hown.lt b hb).1)⟩
            rw [HU.out,List.length_append,evCs_append,evCs_one]
            exact own3
          case measure=>simp [intOf];omega
        · rw [if_pos (by simpa [h8] using h5)] at hea
          have HU:Hid (evUpto bl (k'+1+1)=evUpto bl (k'+1)++inlineS ev.text false):=by show _=_;rw [hsu,hea]
          have hg5:(pv.kind != 5)=true:=by rw [bne,beq_eq_false_iff_ne.2 h5];rfl
          have ci:=fun W=>rinl_doc ⟨ev.text.toArray⟩ false W (by rw [size_of];omega)
          have hil:=(inlF_facts (ev.text.length+1)).1 ev.text false
          have he1:inlineS (⟨ev.text.toArray⟩:ByteArray).data.toList false=inlineS ev.text false:=rfl
          rw [he1] at ci
          have hil2:(inlineS ev.text false).length≤2 * ev.text.length:=hil
          generalize inlineS ev.text false=ei at HU ci hil2
          clear hsu hea hev hpv q0 q1 q2 q3 cc HCL h8 h5 hil he1
          go_wp2_with (first | (go_at_call 57;refine (ci _).mono ?_;rintro e w3 ⟨vi,rfl,owni,b3⟩;have s3:=b3.size;have own3:=own_below hown b3 (Nat.le_refl _)) | (at_builtin;refine wpList_append_row _ rfl _ _ 27 rfl w2.heap.size wr.heap.size 83 j0 (.agg #[.int .i64 0,.bool false,.int .i64 0,.string ⟨#[]⟩]) 4 40 Tryz.underlying27 hj hy0 hy1 hy2 rfl (by decide) _ _ _ rfl own3 _ _ _ rfl owni (evCs_one' _) (by unfold maxLen;omega) (by omega) (by omega) ?_;intro v' w4 own4 grow4))
          go_roundw
          case rel =>
            refine ⟨k'+1+1,by omega,by go_num,?_,(hbel.trans (b3.mono hbs)).grown grow4 (by omega) (fun b hb=>(own3.lt b hb).1)⟩
            rw [HU.out,List.length_append,evCs_append]
            exact own4
          case measure=>simp [intOf];omega
      · rw [if_neg (fun h=>h8 h.1)] at hea
        have HU:Hid (evUpto bl (k+1)=evUpto bl k++[ev]):=by show _=_;rw [hsu,hea]
        have hk8:(ev.kind == 8)=false:=by rw [beq_eq_false_iff_ne];exact h8
        clear hsu hea hev q0 q1 q2 q3 cc HCL h8
        go_wp2_with (at_builtin;refine wpList_append_own _ rfl _ _ 27 rfl w2.heap.size 83 j0 (.agg #[.int .i64 0,.bool false,.int .i64 0,.string ⟨#[]⟩]) 4 40 Tryz.underlying27 hj hy0 hy1 hy2 rfl (by decide) _ _ _ rfl (hown.alloc _) ⟨wr.heap.size,0,none⟩ 1 1 (evCells ev) rfl rfl (ev_cell _ _ _ rfl) (ev_one _) (by unfold maxLen;omega) (by omega) (by simp;omega) ?_;intro v' w3 own3 grow3 _)
        go_roundw
        case rel =>
          refine ⟨k+1,by omega,by go_num,?_,(hbel.alloc hbs _).grown grow3 (by simp;omega) (fun b hb=>(hown.lt b hb).1)⟩
          rw [HU.out,List.length_append,evCs_append,evCs_one]
          exact own3
        case measure=>simp [intOf];omega
    · have hke:k=bl.length:=by omega
      subst hke
      rw [HR.out] at hown
      go_wp2
      go_ret
      exact ⟨_,rfl,Joins.ownsRow_le hown HB2.out.size,HB2.out.trans (hbel.mono HB2.out.size)⟩
end Go.Proofs.YtljcljipppjnoaaGreatDoor
namespace Go.Proofs.YtljcljipppjnoaaGreatDoor
open Go.RowKit
def deepS (st:List Ev):Nat:=(st.filter fun e=>decide (e.kind=2∨e.kind=4)).length
def topK (st:List Ev):Int:=match st.getLast? with
  | some e=>e.kind
  | none=>-1
def insideS (st:List Ev) (k:Int):Bool :=
  if (k=6∨k=7)∧∃ e ∈ st,e.kind=k then false
  else if k=4 then decide (topK st=3∧deepS st < 3)
  else if k=6∨k=7 then decide (topK st=0∨topK st=1∨topK st=6∨topK st=7)
  else if k=2∨k=3 then decide ((topK st=-1∨topK st=2∨topK st=4)∧deepS st < 3)
  else decide (topK st=-1∨topK st=2∨topK st=4)
def nest1 (st:List Ev) (prev:Int) (e:Ev):Option (List Ev) :=
  if 8≤e.kind then
    if st=[]∨e.fin=true∨e.level ≠ 0∨(e.kind=8∧(e.text=[]∨prev=8))∨(2≤topK st∧topK st≤4) then none else some st
  else if e.fin=true then
    match st.getLast? with
    | some o=>if o.kind=e.kind∧o.level=e.level then some st.dropLast else none
    | none=>none
  else if ((e.kind=1) ↔ 0 < e.level)∧e.level≤3∧0≤e.level∧insideS st e.kind=true then some (st++[e]) else none
def nestS (st:List Ev) (prev:Int):List Ev→Option (List Ev)
  | []=>some st
  | e :: r=>match nest1 st prev e with
    | some st'=>nestS st' e.kind r
    | none=>none
def lastK (prev:Int) (l:List Ev):Int:=match l.getLast? with
  | some e=>e.kind
  | none=>prev
structure Fit (st:List Ev) (l:List UInt8) (ins:Bool):Prop where
  top:topK st=0∨topK st=1∨topK st=6∨topK st=7
  emp:ins=false→∀ e ∈ st,e.kind ≠ 6
  lnk:(∃ e ∈ st,e.kind=7)→(91:UInt8) ∉ l
def expS (p:Option Int):List Ev→List Ev
  | []=>[]
  | e :: r=>(if e.kind=8∧p ≠ some 5 then inlineS e.text false else [e])++expS (some e.kind) r
def lastO (p:Option Int) (l:List Ev):Option Int:=match l.getLast? with
  | some e=>some e.kind
  | none=>p
theorem evAt_exp (a b:List Ev) (e:Ev) (h:a ≠ []∨True):evAt (a++e :: b) a.length=if e.kind=8∧lastO none a ≠ some 5 then inlineS e.text false else [e]:=by
  have hat:(a++e :: b)[a.length]?=some e:=by simp
  unfold evAt
  rw [hat]
  simp only
  rcases List.eq_nil_or_concat a with rfl | ⟨pre,x,rfl⟩
  · have h0:lastO none ([]:List Ev)=none:=rfl
    rw [h0]
    by_cases hk:e.kind=8
    · rw [if_pos ⟨hk,by simp [hk]⟩,if_pos ⟨hk,by simp⟩]
    · rw [if_neg (fun hh=>hk hh.1),if_neg (fun hh=>hk hh.1)]
  · rw [List.concat_eq_append]
    have h1:lastO none (pre++[x])=some x.kind:=by simp [lastO]
    have h2:(pre++[x]++e :: b)[(pre++[x]).length - 1]?=some x:=by simp
    rw [h1,h2]
    rfl
theorem range_exp (b a:List Ev):(List.range' a.length b.length).flatMap (evAt (a++b))=expS (lastO none a) b:=by
  induction b generalizing a with
  | nil=>rfl
  | cons e b ih =>
    rw [List.length_cons,List.range'_succ,List.flatMap_cons,evAt_exp a b e (Or.inr trivial),expS]
    have h1:=ih (a++[e])
    rw [List.length_append,List.length_singleton,List.append_assoc,List.singleton_append] at h1
    rw [h1]
    congr 2
    simp [lastO]
theorem events_exp (t:List UInt8):eventsS t=expS none (blocksAt 3 (linesL [] t)):=by
  have h:=range_exp (blocksAt 3 (linesL [] t)) []
  rw [List.nil_append,List.length_nil] at h
  unfold eventsS evUpto
  rw [List.range_eq_range']
  exact h
def Good (st:List Ev) (l:List Ev):Prop:=∀ p prev,nestS st prev (expS p l)=some st
structure Room (st:List Ev) (d:Nat):Prop where
  top:topK st=-1∨topK st=2∨topK st=4
  deep:deepS st+d≤3
  no:∀ e ∈ st,e.kind ≠ 6∧e.kind ≠ 7
end Go.Proofs.YtljcljipppjnoaaGreatDoor
namespace Go.Proofs.YtljcljipppjnoaaGreatDoor
open Go.RowKit
def cost (l:List Ev):Nat:=(l.map fun e=>1+2 * e.text.length).sum
theorem cost_app (a b:List Ev):cost (a++b)=cost a+cost b:=by simp [cost]
theorem cost_cons (e:Ev) (r:List Ev):cost (e :: r)=1+2 * e.text.length+cost r:=by simp [cost]
theorem cost_exp (p:Option Int) (l:List Ev):(expS p l).length≤cost l:=by
  induction l generalizing p with
  | nil=>exact Nat.le_refl _
  | cons e r ih =>
    rw [expS,List.length_append,cost_cons]
    have h1:=ih (some e.kind)
    have h2:=(inlF_facts (e.text.length+1)).1 e.text false
    have h3:(if e.kind=8∧p ≠ some 5 then inlineS e.text false else [e]).length≤1+2 * e.text.length:=by
      split
      · unfold inlineS;omega
      · simp
    omega
theorem cost_leaf (k v:Int) (t:List UInt8):cost (leafS k v t)≤3+2 * t.length:=by
  unfold leafS
  split <;> simp [cost] <;> omega
theorem tot_more2 (ls:List (List UInt8)) (n:Nat) (hn:n≤ls.length):tot (moreAt ls n).1+tot (ls.drop (moreAt ls n).2)≤tot (ls.drop n):=by
  induction hm:ls.length - n using Nat.strongRecOn generalizing n with
  | _ m ih =>
    have hge:=behind_ge ls n
    by_cases h:behindS ls n < ls.length
    · cases h2:two ls[behindS ls n] with
      | true =>
        have a:=ih (ls.length - (behindS ls n+1)) (by omega) (behindS ls n+1) (by omega) rfl
        rw [more_go ls n _ rfl h h2,tot_append,tot_rep,tot_cons]
        generalize behindS ls n=k at h a hge ⊢
        have e1:ls.drop n=(ls.drop n).take (k - n)++ls[k] :: ls.drop (k+1):=by
          have:=List.take_append_drop (k - n) (ls.drop n)
          rw [List.drop_drop,show n+(k - n)=k by omega,List.drop_eq_getElem_cons h] at this
          exact this.symm
        rw [e1,tot_append,tot_cons]
        have h3:=tot_len ((ls.drop n).take (k - n))
        rw [List.length_take,List.length_drop] at h3
        have h4:(ls[k].drop 2).length≤ls[k].length:=by rw [List.length_drop];omega
        simp only
        omega
      | false =>
        rw [more_no ls n _ rfl h h2]
        simp [tot_nil]
    · rw [more_end ls n _ rfl h]
      simp [tot_nil]
theorem tot_drops (ls:List (List UInt8)) {j k:Nat} (h:j≤k):tot (ls.drop k)≤tot (ls.drop j):=by
  have e:ls.drop k=(ls.drop j).drop (k - j):=by rw [List.drop_drop,show j+(k - j)=k by omega]
  rw [e]
  exact tot_drop _ _
theorem item_some {l:List UInt8} (h:itemL l=true):1≤l.length:=by
  cases l with
  | nil=>exact absurd (show itemS ⟨#[]⟩=true from h) (by decide +kernel)
  | cons c r=>simp
theorem tot_item2 (ls:List (List UInt8)) (n:Nat) (hn:n < ls.length) (hi:itemL ls[n]=true):tot (itemIn ls n)+1+tot (ls.drop (moreAt ls (n+1)).2)≤tot (ls.drop n):=by
  have h1:=tot_more2 ls (n+1) (by omega)
  have h2:=item_some hi
  rw [List.drop_eq_getElem_cons hn,tot_cons]
  rw [itemIn,tot_cons,List.getElem?_eq_getElem hn,Option.getD_some,List.length_drop]
  omega
theorem cost_items (inner:List (List UInt8)→List Ev) (hI:∀ ls,cost (inner ls)≤4 * tot ls) (ls:List (List UInt8)) (n:Nat) (hn:n < ls.length) (hi:itemL ls[n]=true):cost (itemsAt inner ls n).1+2+4 * tot (ls.drop (itemsAt inner ls n).2)≤4 * tot (ls.drop n):=by
  induction hm:ls.length - n using Nat.strongRecOn generalizing n with
  | _ m ih =>
    have hev:cost (itemEv inner ls n)≤2+4 * tot (itemIn ls n):=by
      have:=hI (itemIn ls n)
      rw [itemEv,cost_app,cost_app]
      simp [cost] at *
      omega
    have hti:=tot_item2 ls n hn hi
    have hge:=behind_ge ls (moreAt ls (n+1)).2
    have hmg:=more_ge ls (n+1)
    by_cases h:behindS ls (moreAt ls (n+1)).2 < ls.length
    · cases h2:itemL ls[behindS ls (moreAt ls (n+1)).2] with
      | true =>
        have a:=ih _ (by omega) _ h h2 rfl
        have b:=tot_drops ls hge
        rw [items_go inner ls n _ rfl h h2]
        simp only [cost_app]
        omega
      | false=>rw [items_no inner ls n _ rfl h h2];simp only;omega
    · rw [items_end inner ls n _ rfl h];simp only;omega
theorem blank_some {l:List UInt8} (h:¬ blankL l=true):1≤l.length:=by
  cases l with
  | nil=>exact absurd rfl h
  | cons c r=>simp
theorem q_some {l:List UInt8} (h:isQ l=true):(unq l).length+1≤l.length:=by
  cases l with
  | nil=>exact absurd h (by decide)
  | cons c r =>
    show (unq1 r).length+1≤r.length+1
    cases r with
    | nil=>exact Nat.le_refl _
    | cons d s =>
      show (if d == 32 then s else d :: s).length+1≤_
      split <;> simp
theorem tot_unq (ls:List (List UInt8)) (h:∀ l ∈ ls,isQ l=true):tot (ls.map unq)+ls.length≤tot ls:=by
  induction ls with
  | nil=>exact Nat.le_refl _
  | cons l r ih =>
    rw [List.map_cons,tot_cons,tot_cons,List.length_cons]
    have h1:=q_some (h l (by simp))
    have h2:=ih (fun l hl=>h l (by simp [hl]))
    omega
theorem tot_quote2 (ls:List (List UInt8)):tot (quoteIn ls)+quoteN ls≤tot (ls.take (quoteN ls)):=by
  have hq:quoteN ls=(ls.takeWhile isQ).length:=by simp [quoteN,scan]
  have ht:ls.take (quoteN ls)=ls.takeWhile isQ:=by
    rw [hq]
    have h:=List.takeWhile_append_dropWhile (p:=isQ) (l:=ls)
    generalize List.takeWhile isQ ls=a at h
    rw [← h,List.take_left' rfl]
  unfold quoteIn
  rw [ht,hq]
  exact tot_unq _ (fun l hl=>by have:=List.all_takeWhile (p:=isQ) (l:=ls);exact List.all_eq_true.1 this l hl)
theorem cost_step (inner:List (List UInt8)→List Ev) (hI:∀ ls,cost (inner ls)≤4 * tot ls) (depth:Int) (l:List UInt8) (r:List (List UInt8)) (hb:¬ blankL l=true):cost (stepS inner depth l (l :: r)).1+4 * tot ((l :: r).drop (stepS inner depth l (l :: r)).2)≤4 * tot (l :: r):=by
  have hl:=blank_some hb
  unfold stepS
  split
  · have h1:=cost_leaf 5 0 (fencedT (l :: r))
    have h0:(fencedT (l :: r)).length=tot (((l :: r).take (shutAt (l :: r) 1)).drop 1):=by rw [fencedT,codeOf_len]
    rw [h0] at h1
    have h2:tot (((l :: r).take (shutAt (l :: r) 1)).drop 1)+1≤tot ((l :: r).take (shutAt (l :: r) 1)):=by
      have:1≤shutAt (l :: r) 1:=by unfold shutAt;omega
      obtain ⟨k,hk⟩:∃ k,shutAt (l :: r) 1=k+1:=⟨shutAt (l :: r) 1 - 1,by omega⟩
      rw [hk,List.take_succ_cons,List.drop_succ_cons,List.drop_zero,tot_cons]
      omega
    have h3:tot ((l :: r).drop (fencedN (l :: r)))≤tot ((l :: r).drop (shutAt (l :: r) 1)):=by
      unfold fencedN
      split
      · exact tot_drops _ (by omega)
      · rw [List.drop_length];exact Nat.zero_le _
    have h4:=tot_split (l :: r) (shutAt (l :: r) 1)
    simp only
    omega
  split
  · have h1:=cost_leaf 1 (levelL l) (trimL (l.drop (levelL l)))
    have h2:=trimL_le (l.drop (levelL l))
    rw [List.length_drop] at h2
    simp only [List.drop_succ_cons,List.drop_zero]
    rw [tot_cons]
    omega
  split
  · rename_i h4
    have h1:=hI (quoteIn (l :: r))
    have h2:=tot_quote2 (l :: r)
    have h3:=tot_split (l :: r) (quoteN (l :: r))
    have h5:1≤quoteN (l :: r):=by
      have hq:=begins_q l (starts4 _ _ h4).1
      simp [quoteN,scan,hq]
    have h6:cost (quoteS inner (l :: r))≤2+cost (inner (quoteIn (l :: r))):=by
      rw [quoteS,cost_app,cost_app]
      simp [cost]
      omega
    simp only
    omega
  split
  · rename_i h5
    have h1:=cost_items inner hI (l :: r) 0 (by simp) (by simpa [itemL] using (starts5 _ _ h5).1)
    have h6:cost (listS inner (l :: r))≤2+cost (itemsAt inner (l :: r) 0).1:=by
      rw [listS,cost_app,cost_app]
      simp [cost]
      omega
    rw [List.drop_zero] at h1
    simp only [listN]
    omega
  · have h1:=cost_leaf 0 0 (joinT ((l :: r).take (paraFrom (l :: r) depth 1)))
    have h2:=joinT_len ((l :: r).take (paraFrom (l :: r) depth 1))
    have h3:=tot_split (l :: r) (paraFrom (l :: r) depth 1)
    have h4:2≤tot ((l :: r).take (paraFrom (l :: r) depth 1)):=by
      obtain ⟨k,hk⟩:∃ k,paraFrom (l :: r) depth 1=k+1:=⟨paraFrom (l :: r) depth 1 - 1,by unfold paraFrom;omega⟩
      rw [hk,List.take_succ_cons,tot_cons]
      omega
    simp only
    omega
theorem cost_blocks (inner:List (List UInt8)→List Ev) (c:Nat) (hc:∀ ls,(inner ls).length≤c * ls.length) (hI:∀ ls,cost (inner ls)≤4 * tot ls) (depth:Int) (ls:List (List UInt8)):cost (blocksF inner depth ls)≤4 * tot ls:=by
  induction hm:ls.length using Nat.strongRecOn generalizing ls with
  | _ m ih =>
    cases ls with
    | nil=>simp [blocksF,cost]
    | cons l r =>
      rw [blocksF]
      rw [List.length_cons] at hm
      split
      · have:=ih r.length (by omega) r rfl
        rw [tot_cons]
        omega
      · rename_i hb
        have h1:=cost_step inner hI depth l r hb
        have h2:=(step_facts inner c depth hc l r).1
        generalize stepS inner depth l (l :: r)=X at h1 h2
        have hd:(r.drop (X.2 - 1)).length≤r.length:=by rw [List.length_drop];omega
        have h3:=ih (r.drop (X.2 - 1)).length (by omega) _ rfl
        have e:(l :: r).drop X.2=r.drop (X.2 - 1):=by
          obtain ⟨k,hk⟩:∃ k,X.2=k+1:=⟨X.2 - 1,by omega⟩
          rw [hk,List.drop_succ_cons]
          rfl
        rw [e] at h1
        rw [cost_app]
        omega
theorem cost_at (d:Nat) (ls:List (List UInt8)):cost (blocksAt d ls)≤4 * tot ls:=by
  induction d generalizing ls with
  | zero=>exact cost_blocks (fun _=>[]) 0 (fun _=>by simp) (fun _=>by simp [cost]) 3 ls
  | succ d ih=>exact cost_blocks (blocksAt d) _ (fun ls=>blocksAt_le d ls) ih (2 - (d:Int)) ls
theorem events_len (t:List UInt8):(eventsS t).length≤4 * (t.length+1):=by
  rw [events_exp]
  have h1:=cost_exp none (blocksAt 3 (linesL [] t))
  have h2:=cost_at 3 (linesL [] t)
  have h3:=tot_lines t
  omega
end Go.Proofs.YtljcljipppjnoaaGreatDoor
