import Derived.Test.YtljcljipppjnoaaGreatDoorJA23
import Derived.Deep.RegionLaw
import Derived.Laws.EntriesVeiled
import Derived.Laws.StructEq
import Derived.MapKept
namespace Go.Proofs.YtljcljipppjnoaaGreatDoor
open Go.RowKit Go.Shelf
theorem ditems_at (g o cap:Nat) (l0:List UInt8) (r0:List (List UInt8)) (W:World) (hS:Strs g o cap (l0 :: r0) W) (hM:tot (l0 :: r0)≤1073741824) (hI:itemL l0=true) :
    Calls Tryz.prog 160 #[.slice (some ⟨g,o,none⟩) (r0.length+1) cap] W fun e w'=>∃ gi ci,e=.returned (.slice (some ⟨gi,0,none⟩) (itemIn (l0 :: r0) 0).length ci)∧w'.ownsRow W.heap.size 9 1 (.slice (some ⟨gi,0,none⟩) (itemIn (l0 :: r0) 0).length ci) (itemIn (l0 :: r0) 0).length (strCs (itemIn (l0 :: r0) 0))∧Below W.heap.size W w':=by
  refine (ditems_any g o cap l0 r0 W hS hM hI).mono ?_
  rintro e w' ⟨v1,rfl,own,hb⟩
  rcases Joins.ownsRow_forms own with ⟨_,h0⟩ | ⟨gi,ci,rfl⟩
  · rw [itemIn,List.length_cons] at h0
    cases h0
  · exact ⟨gi,ci,rfl,own,hb⟩
theorem Strs.same {g o cap:Nat} {ls:List (List UInt8)} {w w':World} (h:Strs g o cap ls w) (hb:w'.heap[g]?=w.heap[g]?) (hz:w.heap.size≤w'.heap.size):Strs g o cap ls w' :=
  ⟨h.fits,h.max,Nat.lt_of_lt_of_le h.lt hz,fun j l hj=>(World.cell?_of_block (w:=w) hb:w'.cell? ⟨g,o+j,Option.none⟩=w.cell? ⟨g,o+j,Option.none⟩).trans (h.cell j l hj)⟩
theorem three_set {w:World} {b:Nat} {x y z x' y' z':Value} {T:TypeId} (h:w.heap[b]?=some (.cells #[x,y,z] T (0,0))) :
    (((w.setCell ⟨b,0,none⟩ x').setCell ⟨b,1,none⟩ y').setCell ⟨b,2,none⟩ z').heap[b]?=some (.cells #[x',y',z'] T (0,0))∧(∀ c,c ≠ b→(((w.setCell ⟨b,0,none⟩ x').setCell ⟨b,1,none⟩ y').setCell ⟨b,2,none⟩ z').heap[c]?=w.heap[c]?)∧(((w.setCell ⟨b,0,none⟩ x').setCell ⟨b,1,none⟩ y').setCell ⟨b,2,none⟩ z').heap.size=w.heap.size∧(((w.setCell ⟨b,0,none⟩ x').setCell ⟨b,1,none⟩ y').setCell ⟨b,2,none⟩ z').os=w.os∧(((w.setCell ⟨b,0,none⟩ x').setCell ⟨b,1,none⟩ y').setCell ⟨b,2,none⟩ z').tape=w.tape∧(((w.setCell ⟨b,0,none⟩ x').setCell ⟨b,1,none⟩ y').setCell ⟨b,2,none⟩ z').output=w.output:=by
  refine ⟨?_,?_,by simp,rfl,rfl,rfl⟩
  · have h1:(w.setCell ⟨b,0,none⟩ x').heap[b]?=some (.cells #[x',y,z] T (0,0)):=set_row h
    have h2:((w.setCell ⟨b,0,none⟩ x').setCell ⟨b,1,none⟩ y').heap[b]?=some (.cells #[x',y',z] T (0,0)):=set_row h1
    exact set_row h2
  · intro c hc
    rw [Below.heap_setCell _ _ _ _ hc,Below.heap_setCell _ _ _ _ hc,Below.heap_setCell _ _ _ _ hc]
theorem Tel.Ok.box {q:Tel} {acc:List Stp} {w X:World} {b:Nat} (hq:q.Ok) (hT:q.Told acc w) (ho:¬ q.Own w b) (h:∀ c,c ≠ b→X.heap[c]?=w.heap[c]?) (hz:X.heap.size=w.heap.size) (h1:X.os=w.os) (h2:X.tape=w.tape) (h3:X.output=w.output):q.Told acc X∧(∀ B,Kt q (some b) B w X)∧∀ c,q.Own X c→q.Own w c:=by
  obtain ⟨t1,t2⟩:=hq.keep acc w X hT fun c hc=>h c (fun e=>ho (e ▸ hc))
  exact ⟨t1,fun B=>⟨h1,h2,h3,by omega,fun c _ hx _=>h c (fun e=>hx (by rw [e])),fun c _ ho=>t2 c ho⟩,t2⟩
theorem behind_nat (g o cap a n:Nat) (ls:List (List UInt8)) (d:Int) (W:World) (hS:Strs g o cap ls W) (hn:n≤ls.length) (ha:a+n≤4294967296) :
    Calls Tryz.prog 107 #[.agg #[.slice (some ⟨g,o,none⟩) ls.length cap,.int .i64 a,.int .i64 d],.int .i64 n] W fun e w'=>∃ o1 cap1,e=.returned (.agg #[.slice (some ⟨g,o1,none⟩) (ls.drop n).length cap1,.int .i64 ((a+n:Nat):Int),.int .i64 d])∧Strs g o1 cap1 (ls.drop n) W∧Below W.heap.size W w':=by
  rw [Int.natCast_add]
  exact behind_any g o cap a n ls d W hS hn ha
theorem strs_drew {g o cap:Nat} {ls:List (List UInt8)} {w:World} (h:Strs g o cap ls w):Strs g o cap ls w.drew:=⟨h.fits,h.max,h.lt,h.cell⟩
set_option maxRecDepth 100000 in
set_option maxHeartbeats 2000000 in
theorem inList_any (q:Tel) (hq:q.Ok) (f:List (List UInt8)→List Ev) (d:Int) (hd:0≤d∧d < 3) (hE:EachC q (d+1) f) (hfl:∀ ls,(f ls).length≤12 * ls.length) (acc:List Stp) (g o cap a bp bf:Nat) (ls:List (List UInt8)) (W:World) (hT:q.Told acc W) (hlen:(acc.length:Int)+16 * (ls.length:Int)+4 * (4 - (d+1))+2≤1099511627776) (hS:Strs g o cap ls W) (hO:¬ q.Own W g) (hM:tot ls≤1073741824) (h0:0 < ls.length) (hI:itemL (ls[0]'h0)=true) (ha:a+ls.length≤4294967296)
    (h1:W.heap[bp]?=some (.cells #[.slice (some ⟨g,o,none⟩) ls.length cap,.int .i64 a,.int .i64 d] 162 (0,0))) (h2:W.heap[bf]?=some (.cells #[.func (.func q.kd) #[] #[.pointer (some ⟨q.bd,0,none⟩)],.func (.func q.kl) #[] #[.pointer (some ⟨q.bl,0,none⟩)]] 159 (0,0)))
    (o1:¬ q.Own W bp) (o2:¬ q.Own W bf) (n1:g ≠ bp) :
    Calls Tryz.prog 159 #[.pointer (some ⟨bp,0,none⟩),.pointer (some ⟨bf,0,none⟩)] W fun e w'=>e=.returned (.tuple #[])∧(∃ S,SpOk a (a+behindS ls (itemsAt f ls 0).2) S (itemsAt f ls 0).1∧q.Told (acc++S) w')∧Kt q (some bp) W.heap.size W w'∧∃ o5 cap5,w'.heap[bp]?=some (.cells #[.slice (some ⟨g,o5,none⟩) (ls.drop (behindS ls (itemsAt f ls 0).2)).length cap5,.int .i64 ((a+behindS ls (itemsAt f ls 0).2:Nat):Int),.int .i64 d] 162 (0,0)):=by
  have hd1:=hd.1
  have hd2:=hd.2
  have hbp:=lt_of_block h1
  have hbf:=lt_of_block h2
  have hglt:=hS.lt
  have n2:bf ≠ bp:=fun h=>by rw [h,h1] at h2;simp at h2
  have hll:=tot_len ls
  have hSt0:St f ls 0 []:=Or.inl ⟨h0,hI,rfl,rfl⟩
  have HE:Hid (EachC q (d+1) f):=hE
  have HQ:Hid q.Ok:=hq
  have HFL:Hid (∀ ls,(f ls).length≤12 * ls.length):=hfl
  have HM:Hid (tot ls≤1073741824):=hM
  have HB2:Hid (W.heap[bf]?=some (.cells #[.func (.func q.kd) #[] #[.pointer (some ⟨q.bd,0,none⟩)],.func (.func q.kl) #[] #[.pointer (some ⟨q.bl,0,none⟩)]] 159 (0,0))):=h2
  have HO:Hid (¬ q.Own W g∧¬ q.Own W bp∧¬ q.Own W bf):=⟨hO,o1,o2⟩
  obtain ⟨its,hits⟩:∃ its,(itemsAt f ls 0).1=its:=⟨_,rfl⟩
  obtain ⟨bn,hbn⟩:∃ bn,behindS ls (itemsAt f ls 0).2=bn:=⟨_,rfl⟩
  rw [hits,hbn]
  have HI:Hid ((itemsAt f ls 0).1=its∧behindS ls (itemsAt f ls 0).2=bn):=⟨hits,hbn⟩
  clear hd hE hfl hM h2 hO o1 o2 hits hbn hI hq
  go_enter Tryz.func159,Tryz.ntmps159
  go_wp2
  go_loopg [2] ls.length (fun gk _ wr=>∃ (k oo cc:Nat) (S:List Stp) (done:List Ev) (rs:List (List UInt8)),rs.length≤gk∧Hid (rs=ls.drop k)∧wr.heap[bp]?=some (.cells #[.slice (some ⟨g,oo,none⟩) rs.length cc,.int .i64 ((a+k:Nat):Int),.int .i64 d] 162 (0,0))∧Hid (Strs g oo cc rs wr)∧Hid (q.Told (acc++S) wr)∧Hid (SpOk a (a+k) S done)∧Kt q (some bp) W.heap.size W wr∧Hid (St f ls k done)∧done.length≤14 * k∧k+rs.length=ls.length)
  case atStart=>exact ⟨0,o,cap,[],[],ls,Nat.le_refl _,(by show _=_;rfl),h1,hS,(by show q.Told (acc++[]) W;rw [List.append_nil];exact hT),SpOk.nil a,Kt.refl _ _ _ _,hSt0,by simp,by omega⟩
  case round =>
    clear hSt0 h1 hS hT h0
    obtain ⟨k,oo,cc,S,done,rs,hgk,HR,hxp,HS,HT,HSp,hkp,HSt,hdl,hkl⟩:=hrel
    have hks:=hkp.size
    obtain ⟨c1,c2,c3⟩:=cells3 hxp
    have hfit:=HS.out.fits
    have hmax:=HS.out.max
    have hgw:g < wr.heap.size:=by omega
    have hOw:¬ q.Own wr g∧¬ q.Own wr bp∧¬ q.Own wr bf:=⟨hkp.off hglt HO.out.1,hkp.off hbp HO.out.2.1,hkp.off hbf HO.out.2.2⟩
    have hxf:wr.heap[bf]?=some (.cells #[.func (.func q.kd) #[] #[.pointer (some ⟨q.bd,0,none⟩)],.func (.func q.kl) #[] #[.pointer (some ⟨q.bl,0,none⟩)]] 159 (0,0)):=(hkp.block bf hbf (by simpa using n2) HO.out.2.2).trans HB2.out
    obtain ⟨c4,c5⟩:=cells2 hxf
    have hfin:(∀ hk:k < ls.length,itemL ls[k]=false)→Hid ((∃ S,SpOk a (a+bn) S its∧q.Told (acc++S) wr)∧∃ o5 cap5,wr.heap[bp]?=some (.cells #[.slice (some ⟨g,o5,none⟩) (ls.drop bn).length cap5,.int .i64 ((a+bn:Nat):Int),.int .i64 d] 162 (0,0))):=by
      intro hn
      obtain ⟨e1,e2⟩:=st_end f ls k done hn HSt.out
      have hkb:k=bn:=by rw [← HI.out.2];exact e2
      have hdi:done=its:=by rw [← HI.out.1];exact e1
      subst hkb
      subst hdi
      exact ⟨⟨S,HSp.out,HT.out⟩,oo,cc,by rw [← HR.out];exact hxp⟩
    cases rs with
    | nil =>
      have hF:=hfin (fun hk=>by rw [List.length_nil] at hkl;omega)
      clear hfin hOw
      go_wp2
      go_end0
      exact ⟨rfl,hF.out.1,hkp,hF.out.2⟩
    | cons l r =>
      obtain ⟨hlt,hlk,hdr⟩:=drop_facts HR.out
      have hcell:=HS.out.cell 0 l rfl
      rw [Nat.add_zero] at hcell
      have hcI:=fun W=>ditem_any ⟨l.toArray⟩ W
      have hiv:itemS ⟨l.toArray⟩=itemL l:=rfl
      rw [hiv] at hcI
      rw [List.length_cons] at hgk hkl hfit hxp c1
      cases hii:itemL l with
      | false =>
        have hF:=hfin (fun hk=>by rw [hlk];exact hii)
        rw [hii] at hcI
        clear hfin hOw hii hiv
        go_wp2_with (go_at_call 150;refine (hcI _).mono ?_;rintro e w' ⟨rfl,hw⟩;rw [hw];clear hw)
        go_end0
        exact ⟨rfl,hF.out.1,hkp,hF.out.2⟩
      | true =>
        have hMd:tot (l :: r)≤1073741824:=by rw [HR.out];exact Nat.le_trans (tot_drop ls k) HM.out
        have hci:=ditems_at g oo cc l r wr HS.out hMd hii
        obtain ⟨sh1,sh2⟩:=item_shift ls k hlt
        rw [← HR.out] at sh1 sh2
        obtain ⟨m,hm⟩:∃ m,(moreAt ls (k+1)).2=m:=⟨_,rfl⟩
        have hmf:=more_facts ls (k+1) (by omega)
        rw [hm] at hmf
        have hil:=(item_small ls k hlt _ (tot_small (Nat.le_refl (tot ls)))).2
        have hti:=tot_item ls k hlt
        have HSt2:Hid (St f ls (behindS ls m) (done++itemEv f ls k)):=by
          have:=st_step f ls k done hlt (by rw [hlk];exact hii) HSt.out
          rw [hm] at this
          exact this
        rw [hm] at hil
        have HIE:Hid (itemEv f ls k=[⟨4,false,0,[]⟩]++f (itemIn ls k)++[⟨4,true,0,[]⟩]):=rfl
        rw [← sh1] at hil hti HIE
        obtain ⟨it,hit⟩:∃ it,itemIn (l :: r) 0=it:=⟨_,rfl⟩
        rw [hit] at hci hil hti HIE
        have hfi:=HFL.out it
        have hkm:k+it.length=m:=by omega
        have hitr:it.length≤r.length+1:=by omega
        have hdm:(l :: r).drop it.length=ls.drop m:=by rw [HR.out,List.drop_drop,hkm]
        have hbm:behindS ls m=m+nb ((l :: r).drop it.length):=by rw [nb_behind,hdm]
        have hMt:tot it≤1073741824:=Nat.le_trans hti HM.out
        have HWB:Hid (∀ (gi ci:Nat) (w2:World),Below wr.heap.size wr w2→w2.ownsRow wr.heap.size 9 1 (.slice (some ⟨gi,0,none⟩) it.length ci) it.length (strCs it)→Calls Tryz.prog 157 #[.agg #[.func (.func q.kd) #[] #[.pointer (some ⟨q.bd,0,none⟩)],.func (.func q.kl) #[] #[.pointer (some ⟨q.bl,0,none⟩)]],.int .i64 4,.agg #[.slice (some ⟨gi,0,none⟩) it.length ci,.int .i64 ((a+k:Nat):Int),.int .i64 (d+1)]] w2 fun e w'=>e=.returned (.tuple #[])∧(∃ S',SpOk a (a+m) S' (done++itemEv f ls k)∧q.Told (acc++S') w')∧Kt q none w2.heap.size w2 w'):=by
          intro gi ci w2 hb ho
          have hTw:=HQ.out.below HT.out hb
          have hSl:=HSp.out.len
          refine (withBlocks_any q HQ.out f (d+1) HE.out 4 (acc++S) (a+k) _ it w2 (by omega) hTw (lines_own ho) (fun g' hg'=>HQ.out.new HT.out hb (by have:=(ho.lt g' hg').1;omega)) hMt (by omega) (by rw [List.length_append];omega) (by omega)).mono ?_
          rintro e w' ⟨rfl,⟨S2,s1,s2⟩,s3⟩
          rw [show a+k+it.length=a+m by omega] at s1
          refine ⟨rfl,⟨S++([.ev ⟨4,false,0,[]⟩]++S2++[.ev ⟨4,true,0,[]⟩]),?_,by rw [← List.append_assoc];exact s2⟩,s3⟩
          rw [HIE.out]
          exact HSp.out.app (s1.within ⟨4,false,0,[]⟩ ⟨4,true,0,[]⟩ (by decide) (by decide))
        have hcW:=fun gi ci W'=>within_any (some ⟨g,oo,none⟩) (some ⟨gi,0,none⟩) (r.length+1) cc it.length ci (a+k) d ⟨hd1,hd2⟩ W'
        have hcB1:∀ W',Strs g oo cc (l :: r) W'→Calls Tryz.prog 107 #[.agg #[.slice (some ⟨g,oo,none⟩) (r.length+1) cc,.int .i64 ((a+k:Nat):Int),.int .i64 d],.int .i64 it.length] W' _:=fun W' h=>behind_nat g oo cc (a+k) it.length (l :: r) d W' h (by rw [List.length_cons];exact hitr) (by omega)
        rw [show a+k+it.length=a+m by omega] at hcB1
        have hnl:=nb_le ((l :: r).drop it.length)
        have hMd2:tot ((l :: r).drop it.length)≤1073741824:=Nat.le_trans (tot_drop _ _) hMd
        have hd2l:((l :: r).drop it.length).length+m=ls.length:=by rw [hdm,List.length_drop];omega
        have HDD:Hid (((l :: r).drop it.length).drop (nb ((l :: r).drop it.length))=ls.drop (behindS ls m)):=by
          show _=_
          rw [hdm,List.drop_drop,← nb_behind]
        have hevl:(itemEv f ls k).length=2+(f it).length:=by rw [HIE.out];simp;omega
        have hN:=fun o1 cap1 W' (h:Strs g o1 cap1 ((l :: r).drop it.length) W')=>dblanks_any g o1 cap1 _ W' h hMd2
        have hcB2:∀ o1 cap1 W',Strs g o1 cap1 ((l :: r).drop it.length) W'→_:=fun o1 cap1 W' h=>behind_nat g o1 cap1 (a+m) (nb ((l :: r).drop it.length)) ((l :: r).drop it.length) d W' h hnl (by omega)
        generalize hrs2:(l :: r).drop it.length=rs2 at hcB1 hN hcB2 HDD hd2l hbm hnl
        generalize nb rs2=n at hN hcB2 HDD hbm hnl
        rw [show a+m+n=a+behindS ls m by omega] at hcB2
        have hnd:(rs2.drop n).length+behindS ls m=ls.length:=by rw [List.length_drop];omega
        generalize rs2.drop n=rs3 at hcB2 HDD hnd
        have HHB:Hid (behindS ls m≤ls.length∧(done++itemEv f ls k).length≤14 * behindS ls m∧rs3.length≤r.length∧m≤behindS ls m):=by
          refine ⟨by omega,?_,?_,by omega⟩
          · rw [List.length_append,hevl];omega
          · have h1:1≤it.length:=by rw [← hit,itemIn,List.length_cons];omega
            omega
        have hnd2:behindS ls m+rs3.length=ls.length:=by omega
        generalize behindS ls m=bm at HSt2 HDD HHB hcB2 hnd2
        generalize itemEv f ls k=iev at HWB HSt2 HHB
        have hBF:Hid _:=hOw
        have hXF:Hid (wr.heap[bf]?=some (.cells #[.func (.func q.kd) #[] #[.pointer (some ⟨q.bd,0,none⟩)],.func (.func q.kl) #[] #[.pointer (some ⟨q.bl,0,none⟩)]] 159 (0,0))∧wr.heap[bp]?=some (.cells #[.slice (some ⟨g,oo,none⟩) (r.length+1) cc,.int .i64 ((a+k:Nat):Int),.int .i64 d] 162 (0,0))):=⟨hxf,hxp⟩
        have HKP:Hid (Kt q (some bp) W.heap.size W wr):=hkp
        have HKb:Hid (∀ w',Below wr.heap.size wr w'→(w'.cell? ⟨bf,0,none⟩=some (.func (.func q.kd) #[] #[.pointer (some ⟨q.bd,0,none⟩)])∧w'.cell? ⟨bf,1,none⟩=some (.func (.func q.kl) #[] #[.pointer (some ⟨q.bl,0,none⟩)]))∧(w'.cell? ⟨bp,0,none⟩=some (.slice (some ⟨g,oo,none⟩) (r.length+1) cc)∧w'.cell? ⟨bp,1,none⟩=some (.int .i64 ((a+k:Nat):Int))∧w'.cell? ⟨bp,2,none⟩=some (.int .i64 d))):=fun w' hb=>⟨cells2 ((hb.block bf (by omega)).trans hxf),cells3 ((hb.block bp (by omega)).trans hxp)⟩
        have HK3:Hid (∀ w2 w3,Below wr.heap.size wr w2→Kt q none w2.heap.size w2 w3→(w3.heap[bf]?=wr.heap[bf]?∧w3.heap[bp]?=wr.heap[bp]?)∧Strs g oo cc (l :: r) w3∧(¬ q.Own w3 bp∧¬ q.Own w3 g)∧Kt q (some bp) W.heap.size W w3∧wr.heap.size≤w3.heap.size):=by
          intro w2 w3 hb hk
          have q1:=HQ.out.off HT.out hb hOw.1
          have q2:=HQ.out.off HT.out hb hOw.2.1
          have q3:=HQ.out.off HT.out hb hOw.2.2
          have z:=hb.size
          have z':=hk.size
          exact ⟨⟨(hk.block bf (by omega) (by simp) q3).trans (hb.block bf (by omega)),(hk.block bp (by omega) (by simp) q2).trans (hb.block bp (by omega))⟩,(HS.out.below hb hgw).kept hk (by omega) (by simp) q1,⟨hk.off (by omega) q2,hk.off (by omega) q1⟩,hkp.trans (((HQ.out.kt HT.out hb).mono hks).trans ((hk.mono (by omega)).weak)),by omega⟩
        rw [hii] at hcI
        clear hfin hiv hii hm sh1 sh2 HSt hil hbm hrs2 hit hdm hmf hti hevl HIE hOw hxf hxp hkp hkm hfi hnd hd2l hMd hMd2 hMt HR hdr hlk
        go_wp2_with (first
          | (go_at_call 150;refine (hcI _).mono ?_;rintro e w' ⟨rfl,hw⟩;rw [hw];clear hw)
          | (go_at_call 160;refine hci.mono ?_;rintro e w1 ⟨gi,ci,rfl,own1,b1⟩))
        have B1:Below wr.heap.size wr w1.drew:=b1.drew
        go_region_held3 (fun w'=>(w'.cell? ⟨bf,0,none⟩=some (.func (.func q.kd) #[] #[.pointer (some ⟨q.bd,0,none⟩)])∧w'.cell? ⟨bf,1,none⟩=some (.func (.func q.kl) #[] #[.pointer (some ⟨q.bl,0,none⟩)]))∧(w'.cell? ⟨bp,0,none⟩=some (.slice (some ⟨g,oo,none⟩) (r.length+1) cc)∧w'.cell? ⟨bp,1,none⟩=some (.int .i64 ((a+k:Nat):Int))∧w'.cell? ⟨bp,2,none⟩=some (.int .i64 d))) (first | exact ⟨cells2 ((HK3.out _ _ B2 K3).1.1.trans hXF.out.1),cells3 ((HK3.out _ _ B2 K3).1.2.trans hXF.out.2)⟩ | exact HKb.out _ B2 | exact HKb.out _ B1) (first | (go_at_call 158;refine (hcW gi ci _).mono ?_;rintro e w2 ⟨rfl,b2⟩;have B2:Below wr.heap.size wr w2:=B1.trans (b2.mono B1.size)) | (go_at_call 157;refine (HWB.out gi ci w2 B2 (own_below (own_below own1 ((Below.refl _ w1).drew) (Nat.le_refl _)) b2 (Nat.le_refl _))).mono ?_;rintro e w3 ⟨rfl,⟨S',hS',T3⟩,K3⟩))
        have HSS:Hid (SpOk a (a+m) S' (done++iev)):=hS'
        obtain ⟨⟨x1,x2⟩,x3,⟨x4,x5⟩,x6,x7⟩:=HK3.out _ _ B2 K3
        have e3:=x2.trans hXF.out.2
        have HX:Hid _:=And.intro x3 (And.intro x4 (And.intro x5 (And.intro x6 T3)))
        obtain ⟨d1,d2,d3⟩:=cells3 e3
        clear hS' x1 x2 x3 x4 x5 x6 T3 K3 HWB HK3 HKb own1 b1 b2 B1 B2 c1 c2 c3 c4 c5
        go_wp2_with (go_at_call 107;refine (hcB1 _ HX.out.1).mono ?_;rintro e w4 ⟨o1,cap1,rfl,hs4,b4⟩;have e4:=(b4.block bp (by omega)).trans e3;have f0:=row_free (i:=0) e4;have f1:=row_free (i:=1) e4;have f2:=row_free (i:=2) e4;obtain ⟨p1,p2,p3⟩:=cells3 e4)
        have z4:=b4.size
        obtain ⟨y1,y2,y3,y4,y5,y6⟩:=three_set (x':=.slice (some ⟨g,o1,none⟩) rs2.length cap1) (y':=.int .i64 ((a:Int)+(m:Int))) (z':=.int .i64 d) e4
        have T4:=HQ.out.below HX.out.2.2.2.2 b4
        obtain ⟨T5,K5,O5⟩:=HQ.out.box T4 (HQ.out.off HX.out.2.2.2.2 b4 HX.out.2.1) y2 y3 y4 y5 y6
        have K35:Kt q (some bp) W.heap.size W _:=HX.out.2.2.2.1.trans (((HQ.out.kt HX.out.2.2.2.2 b4).mono (by omega)).trans (K5 W.heap.size))
        have hs5:=(hs4.below b4 (by omega)).same (y2 g n1) (Nat.le_of_eq y3.symm)
        have O5b:¬ q.Own _ bp:=fun h=>HQ.out.off HX.out.2.2.2.2 b4 HX.out.2.1 (O5 bp h)
        have HC:Hid _:=hs5
        have HD:Hid _:=And.intro T5 (And.intro O5b K35)
        clear T4 T5 K5 O5 K35 hs5 O5b hs4 HX y4 y5 y6 y2 b4 e3 d1 d2 d3 f0 f1 f2 p1 p2 p3 e4
        generalize ((w4.setCell ⟨bp,0,none⟩ (.slice (some ⟨g,o1,none⟩) rs2.length cap1)).setCell ⟨bp,1,none⟩ (.int .i64 ((a:Int)+(m:Int)))).setCell ⟨bp,2,none⟩ (.int .i64 d)=w5 at *
        obtain ⟨p1,p2,p3⟩:=cells3 y1
        have hz5:bp < w5.heap.size∧g < w5.heap.size:=by omega
        have hS5:=HC.out.fits
        have hS6:=HC.out.max
        go_region_law (first
          | (go_simp;go_at_call 161;refine (hN o1 cap1 _ (strs_drew HC.out)).mono ?_;rintro e w6 ⟨rfl,b6⟩;have B6:Below w5.heap.size w5 w6:=(Below.refl _ w5).drew.trans b6;have e6:=(B6.block bp hz5.1).trans y1;obtain ⟨r1,r2,r3⟩:=cells3 e6;simp only [])
          | (go_simp;go_at_call 107;refine (hcB2 o1 cap1 _ (HC.out.below B6 hz5.2)).mono ?_;rintro e w7 ⟨o7,cap7,rfl,hs7,b7⟩;have B7:Below w5.heap.size w5 w7:=B6.trans (b7.mono B6.size);have e7:=(B7.block bp hz5.1).trans y1;have f0:=row_free (i:=0) e7;have f1:=row_free (i:=1) e7;have f2:=row_free (i:=2) e7;obtain ⟨s1,s2,s3⟩:=cells3 e7;simp only []))
        all_goals
          obtain ⟨v1,v2,v3,v4,v5,v6⟩:=three_set (x':=.slice (some ⟨g,o7,none⟩) rs3.length cap7) (y':=.int .i64 ((a:Int)+(bm:Int))) (z':=.int .i64 d) e7
          have T7:=HQ.out.below HD.out.1 B7
          have z7:=B7.size
          obtain ⟨T8,K8,_⟩:=HQ.out.box T7 (HQ.out.off HD.out.1 B7 HD.out.2.1) v2 v3 v4 v5 v6
          have K78:Kt q (some bp) W.heap.size W _:=HD.out.2.2.trans (((HQ.out.kt HD.out.1 B7).mono (by omega)).trans (K8 W.heap.size))
          have hs8:=(hs7.below b7 (by have:=B6.size;omega)).same (v2 g n1) (Nat.le_of_eq v3.symm)
          have HZ:Hid _:=And.intro v1 (And.intro hs8 (And.intro T8 K78))
          have HH:=HHB.out
          clear v1 v2 v3 v4 v5 v6 T7 T8 K8 K78 hs8 hs7 b7 B7 e7 f0 f1 f2 s1 s2 s3
          go_wp2
          go_roundg rs3.length
          case measure=>omega
          case rel=>exact ⟨bm,o7,cap7,S',done++iev,rs3,Nat.le_refl _,HDD,HZ.out.1,HZ.out.2.1,HZ.out.2.2.1,⟨HSS.out.flat,HSS.out.exp,HSS.out.spans.upto (by have:=HH.2.2.2;omega)⟩,HZ.out.2.2.2,HSt2,HH.2.1,hnd2⟩
end Go.Proofs.YtljcljipppjnoaaGreatDoor
namespace Go.Proofs.YtljcljipppjnoaaGreatDoor
open Go.RowKit Go.Shelf
set_option maxRecDepth 100000 in
set_option maxHeartbeats 2000000 in
theorem dlist_any (q:Tel) (hq:q.Ok) (f:List (List UInt8)→List Ev) (d:Int) (hd:0≤d∧d < 3) (hE:EachC q (d+1) f) (hfl:∀ ls,(f ls).length≤12 * ls.length) (acc:List Stp) (g o cap a:Nat) (ls:List (List UInt8)) (W:World) (hT:q.Told acc W) (hlen:(acc.length:Int)+16 * (ls.length:Int)+4 * (4 - d)≤1099511627776) (hS:Strs g o cap ls W) (hO:¬ q.Own W g) (hM:tot ls≤1073741824) (h0:0 < ls.length) (hI:itemL (ls[0]'h0)=true) (ha:a+ls.length≤4294967296) :
    Calls Tryz.prog 132 #[.agg #[.func (.func q.kd) #[] #[.pointer (some ⟨q.bd,0,none⟩)],.func (.func q.kl) #[] #[.pointer (some ⟨q.bl,0,none⟩)]],.agg #[.slice (some ⟨g,o,none⟩) ls.length cap,.int .i64 a,.int .i64 d]] W fun e w' =>
      e=.returned (.int .i64 ((behindS ls (listN f ls):Nat):Int))∧(∃ S,SpOk a (a+behindS ls (listN f ls)) S (listS f ls)∧q.Told (acc++S) w')∧Kt q none W.heap.size W w':=by
  have hmf:∀ (fn:Fn) (first cap:Array Value) (w:World),(Instr.makeFunc fn first cap).run Tryz.prog w=.ok (.func fn first cap) w:=fun _ _ _ _=>rfl
  have hglt:=hS.lt
  obtain ⟨q1,q2⟩:=items_len f hfl ls h0
  have hd1:=hd.1
  have hd2:=hd.2
  have hfit:=hS.fits
  have hmax:=hS.max
  have hll:=tot_len ls
  obtain ⟨W2,hW2⟩:∃ W2,((W.alloc (.cells #[.func (.func q.kd) #[] #[.pointer (some ⟨q.bd,0,none⟩)],.func (.func q.kl) #[] #[.pointer (some ⟨q.bl,0,none⟩)]] 159)).alloc (.cells #[.slice (some ⟨g,o,none⟩) ls.length cap,.int .i64 a,.int .i64 d] 162))=W2:=⟨_,rfl⟩
  have z2:W2.heap.size=W.heap.size+1+1:=by rw [← hW2];simp
  obtain ⟨x1,x2,x3⟩:=Obj.fi q (.slice (some ⟨g,o,none⟩) ls.length cap) (.int .i64 a) (.int .i64 d) W W2 (by rw [hW2,← z2];exact Below.refl _ _)
  have hb2:behindS ls (itemsAt f ls 0).2≤ls.length:=behind_le ls _ q2
  have hlN:listN f ls=(itemsAt f ls 0).2:=rfl
  have hlS:listS f ls=[⟨3,false,0,[]⟩]++(itemsAt f ls 0).1++[⟨3,true,0,[]⟩]:=rfl
  rw [hlN,hlS]
  obtain ⟨bn,hbn⟩:∃ bn,behindS ls (itemsAt f ls 0).2=bn:=⟨_,rfl⟩
  have hoff:∀ b,W.heap.size≤b→¬ q.Own W2 b:=fun b hb=>hq.new hT x3 hb
  have hOg:¬ q.Own W2 g:=hq.off hT x3 hO
  have hc:=twithin_any q hq (some (W.heap.size+1)) acc (fun S=>SpOk a (a+bn) S (itemsAt f ls 0).1) (14 * ls.length) (fun S hS=>by rw [hS.len];exact q1) ⟨3,false,0,[]⟩ 159 #[.pointer (some ⟨W.heap.size+1,0,none⟩),.pointer (some ⟨W.heap.size,0,none⟩)] W2 (fun w=>¬ q.Own w (W.heap.size+1)∧∃ o5 cap5,w.heap[W.heap.size+1]?=some (.cells #[.slice (some ⟨g,o5,none⟩) (ls.drop bn).length cap5,.int .i64 ((a+bn:Nat):Int),.int .i64 d] 162 (0,0))) (enters_of Tryz.func159 (by kernel_rfl) rfl) (hq.below hT x3) (by omega) (fun g' hg'=>by cases hg';omega)
    (fun W' hT' hK'=>by
      have hO':¬ q.Own W' g:=hK'.off (by omega) hOg
      refine (inList_any q hq f d hd hE hfl (acc++[.ev ⟨3,false,0,[]⟩]) g o cap a (W.heap.size+1) W.heap.size ls W' hT' (by rw [List.length_append,List.length_singleton];omega) ((hS.below x3 hglt).kept hK' (by omega) (by simp) hOg) hO' hM h0 hI ha
        ((hK'.block _ (by omega) (by simp) (hoff _ (by omega))).trans x2) ((hK'.block _ (by omega) (by simp) (hoff _ (by omega))).trans x1)
        (hK'.off (by omega) (hoff _ (by omega))) (hK'.off (by omega) (hoff _ (by omega))) (by omega)).mono ?_
      rw [hbn]
      rintro e w' ⟨rfl,⟨S,s1,s2⟩,K,hv⟩
      have s3:=hK'.size
      exact ⟨rfl,S,s1,s2,K,K.off (by omega) (hK'.off (by omega) (hoff _ (by omega))),hv⟩)
    (fun W1 w2 hR hK=>by
      obtain ⟨r1,o5,cap5,hv⟩:=hR
      exact ⟨hK.off (by omega) r1,o5,cap5,(hK.block _ (by omega) (by simp) r1).trans hv⟩)
  have hc2:Calls Tryz.prog 152 #[.agg #[.int .i64 3,.bool false,.int .i64 0,.string ⟨#[]⟩],.func (.func q.kd) #[] #[.pointer (some ⟨q.bd,0,none⟩)],.func (.func 159) #[] #[.pointer (some ⟨W.heap.size+1,0,none⟩),.pointer (some ⟨W.heap.size,0,none⟩)]] W2 fun e w'=>e=.returned (.tuple #[])∧(∃ S,SpOk a (a+bn) S ([⟨3,false,0,[]⟩]++(itemsAt f ls 0).1++[⟨3,true,0,[]⟩])∧q.Told (acc++S) w')∧Kt q none W.heap.size W w'∧∃ o5 cap5,w'.heap[W.heap.size+1]?=some (.cells #[.slice (some ⟨g,o5,none⟩) (ls.drop bn).length cap5,.int .i64 ((a+bn:Nat):Int),.int .i64 d] 162 (0,0)):=by
    refine hc.mono ?_
    rintro e w' ⟨rfl,S,s1,s2,K,_,hv⟩
    exact ⟨rfl,⟨_,s1.within ⟨3,false,0,[]⟩ ⟨3,true,0,[]⟩ (by decide) (by decide),s2⟩,(hq.kt hT x3).trans ((K.mono (by omega)).past (by omega)),hv⟩
  have hdl:(ls.drop bn).length=ls.length - bn:=List.length_drop
  rw [hbn] at hb2
  rw [hbn]
  rw [hdl] at hc2
  have hsub:((ls.length:Int) - ((ls.length - bn:Nat):Int))=(bn:Int):=by omega
  generalize [⟨3,false,0,[]⟩]++(itemsAt f ls 0).1++[⟨3,true,0,[]⟩]=tl at hc2 ⊢
  obtain ⟨k1,k2⟩:=cells2 x1
  obtain ⟨k3,k4,k5⟩:=cells3 x2
  clear hc hoff hOg hT hO hS hE hfl hI hd hq x1 x2 x3 hdl hbn hlN hlS q1 q2 z2
  go_enter Tryz.func132,Tryz.ntmps132
  go_wp2_with (go_at_call 152;refine hc2.mono ?_;rintro e w5 ⟨rfl,T5,K5,o5,cap5,hv⟩;obtain ⟨v1,v2,v3⟩:=cells3 hv)
  go_ret
  exact ⟨rfl,T5,K5⟩
end Go.Proofs.YtljcljipppjnoaaGreatDoor
namespace Go.Proofs.YtljcljipppjnoaaGreatDoor
open Go.RowKit Go.Shelf
def FirstOk (f:List (List UInt8)→List Ev) (d:Int) (ls:List (List UInt8)) (ev:List Ev) (n:Nat):Prop :=
  1≤n∧n≤ls.length∧ev++blocksF f d (ls.drop n)=blocksF f d ls∧ev.length≤16 * n
theorem first_step (f:List (List UInt8)→List Ev) (d:Int) (hfl:∀ ls,(f ls).length≤12 * ls.length) (l:List UInt8) (r:List (List UInt8)) (hb:blankL l=false):FirstOk f d (l :: r) (stepS f d l (l :: r)).1 (stepS f d l (l :: r)).2:=by
  obtain ⟨a1,a2,a3⟩:=step_facts f 12 d hfl l r
  refine ⟨a1,a2,?_,a3⟩
  conv=>rhs;rw [blocksF,if_neg (by simp [hb])]
  generalize stepS f d l (l :: r)=X at a1 a2 a3
  obtain ⟨m,hm⟩:∃ m,X.2=m+1:=⟨X.2 - 1,by omega⟩
  rw [hm,List.drop_succ_cons,Nat.add_sub_cancel]
theorem first_blank (f:List (List UInt8)→List Ev) (d:Int) (l:List UInt8) (r:List (List UInt8)) (hb:blankL l=true):FirstOk f d (l :: r) [] 1:=by
  refine ⟨Nat.le_refl _,by simp,?_,by simp⟩
  rw [List.nil_append,List.drop_succ_cons,List.drop_zero,blocksF,if_pos hb]
theorem first_behind (f:List (List UInt8)→List Ev) (d:Int) (ls:List (List UInt8)) (ev:List Ev) (n:Nat) (h:FirstOk f d ls ev n):FirstOk f d ls ev (behindS ls n):=by
  obtain ⟨h1,h2,h3,h4⟩:=h
  have g1:=behind_ge ls n
  have g2:=behind_le ls n h2
  exact ⟨by omega,g2,by rw [blocks_behind];exact h3,by omega⟩
set_option maxRecDepth 100000 in
set_option maxHeartbeats 4000000 in
theorem dfirst_any (q:Tel) (hq:q.Ok) (f:List (List UInt8)→List Ev) (d:Int) (hd:0≤d∧d≤3) (hE:d < 3→EachC q (d+1) f) (hfl:∀ ls,(f ls).length≤12 * ls.length) (acc:List Stp) (g o cap a:Nat) (l:List UInt8) (r:List (List UInt8)) (W:World) (hT:q.Told acc W) (hlen:(acc.length:Int)+16 * ((l :: r).length:Int)+4 * (4 - d)≤1099511627776) (hS:Strs g o cap (l :: r) W) (hO:¬ q.Own W g) (hM:tot (l :: r)≤1073741824) (ha:a+(l :: r).length≤4294967296) :
    Calls Tryz.prog 108 #[.agg #[.func (.func q.kd) #[] #[.pointer (some ⟨q.bd,0,none⟩)],.func (.func q.kl) #[] #[.pointer (some ⟨q.bl,0,none⟩)]],.agg #[.slice (some ⟨g,o,none⟩) (r.length+1) cap,.int .i64 a,.int .i64 d]] W fun e w'=>∃ ev n,e=.returned (.int .i64 ((n:Nat):Int))∧FirstOk f d (l :: r) ev n∧(∃ S,SpOk a (a+n) S ev∧q.Told (acc++S) w')∧Kt q none W.heap.size W w':=by
  have hglt:=hS.lt
  have hfit:=hS.fits
  rw [List.length_cons] at hfit
  have hmax:=hS.max
  have hcell:=hS.cell 0 l rfl
  rw [Nat.add_zero] at hcell
  have hL:(l :: r).length=r.length+1:=rfl
  rw [hL] at hlen ha
  have hsz:l.length≤1073741824:=by rw [tot_cons] at hM;omega
  obtain ⟨hd1,hd2⟩:=hd
  have hcB:=fun W=>dblank_any ⟨l.toArray⟩ W (by rw [size_of];omega)
  have hbl:blankS ⟨l.toArray⟩=blankL l:=rfl
  rw [hbl] at hcB
  obtain ⟨W2,hW2,z2,hK,hK3⟩:=fp_frame q hq acc W hT (.slice (some ⟨g,o,none⟩) (r.length+1) cap) (.int .i64 a) (.int .i64 d)
  obtain ⟨⟨⟨k1,k2⟩,⟨k3,k4,k5⟩⟩,hb02,_⟩:=hK W2 (Below.refl _ W2)
  have hcell2:=(hb02.cell (p:=⟨g,o,none⟩) hglt).trans hcell
  have HK:Hid _:=hK
  clear z2
  cases hbb:blankL l with
  | true =>
    have HF:Hid (FirstOk f d (l :: r) [] 1):=first_blank f d l r hbb
    have HT:Hid (∀ w1,Below W2.heap.size W2 w1→q.Told (acc++[]) w1∧Kt q none W.heap.size W w1):=fun w1 b1=>⟨by rw [List.append_nil];exact (hK w1 b1).2.2.1,hq.kt hT (hK w1 b1).2.1⟩
    rw [hbb] at hcB
    clear hbb hbl hE hfl hS hO hT hq hK hK3
    go_enter Tryz.func108,Tryz.ntmps108
    go_wp2_with (go_at_call 127;refine (hcB _).mono ?_;rintro e w1 ⟨rfl,b1⟩)
    go_ret
    exact ⟨[],1,rfl,HF.out,⟨[],(SpOk.nil a).upto (by omega),(HT.out w1 b1).1⟩,(HT.out w1 b1).2⟩
  | false =>
    rw [hbb] at hcB
    have hF:=first_step f d hfl l r hbb
    have hcS:=fun W=>dbegins_any ⟨l.toArray⟩ d W (by rw [size_of];omega)
    obtain ⟨sv,hsv⟩:∃ sv,startsS ⟨l.toArray⟩ d=sv:=⟨_,rfl⟩
    have h4:=starts4 ⟨l.toArray⟩ d
    have h5:=starts5 ⟨l.toArray⟩ d
    have hkz:=kind_zero ⟨l.toArray⟩ d
    rw [hsv] at hcS h4 h5 hkz
    have hstep:stepS f d l (l :: r)=if sv=2 then (leafS 5 0 (fencedT (l :: r)),fencedN (l :: r)) else if sv=3 then (leafS 1 (levelL l) (trimL (l.drop (levelL l))),1) else if sv=4 then (quoteS f (l :: r),quoteN (l :: r)) else if sv=5 then (listS f (l :: r),listN f (l :: r)) else (leafS 0 0 (joinT ((l :: r).take (paraFrom (l :: r) d 1))),paraFrom (l :: r) d 1):=by
      rw [stepS,hsv]
    rw [hstep] at hF
    have hq':sv=2∨sv=3∨sv=4∨sv=5∨(sv ≠ 2∧sv ≠ 3∧sv ≠ 4∧sv ≠ 5):=by omega
    clear hbl
    rcases hq' with rfl | rfl | rfl | rfl | ⟨q2,q3,q4,q5⟩
    · rw [if_pos rfl] at hF
      have hcC:∀ w1,Below W2.heap.size W2 w1→Calls Tryz.prog 129 #[.agg #[.func (.func q.kd) #[] #[.pointer (some ⟨q.bd,0,none⟩)],.func (.func q.kl) #[] #[.pointer (some ⟨q.bl,0,none⟩)]],.agg #[.slice (some ⟨g,o,none⟩) (r.length+1) cap,.int .i64 a,.int .i64 d]] w1 fun e w'=>∃ ev n,e=.returned (.int .i64 ((n:Nat):Int))∧FirstOk f d (l :: r) ev n∧(∃ S,SpOk a (a+n) S ev∧q.Told (acc++S) w')∧Kt q none W.heap.size W w':=fun w1 b1=>by
        obtain ⟨_,b0,t1,_⟩:=hK w1 b1
        have s1:=hS.below b0 hglt
        have o1:=hq.off hT b0 hO
        refine (dcode_any q hq acc g o cap a d l r w1 t1 (by omega) s1 hM).mono ?_
        rintro e w' ⟨rfl,hSS,K⟩
        exact ⟨_,_,rfl,hF,hSS,(hq.kt hT b0).trans (K.mono b0.size)⟩
      have HC:Hid _:=hcC
      clear hcC hF hstep hE hfl hT hS hO h4 h5 hkz hsv hbb hq hK hK3
      go_enter Tryz.func108,Tryz.ntmps108
      go_wp2_with (go_at_call 127;refine (hcB _).mono ?_;rintro e w1 ⟨rfl,b1⟩;obtain ⟨⟨⟨q1,q2⟩,⟨q3,q4,q5⟩⟩,b9,_⟩:=HK.out w1 b1;have c1:=(b9.cell (p:=⟨g,o,none⟩) hglt).trans hcell)
      have B1:Below W2.heap.size W2 w1.drew:=b1.drew
      have hSS1:w1.drew.cell? ⟨W.heap.size+1,0,none⟩=some (.slice (some ⟨g,o,none⟩) (r.length+1) cap)∧w1.drew.cell? ⟨W.heap.size+1,2,none⟩=some (.int .i64 d)∧w1.drew.cell? ⟨g,o,none⟩=some (.string ⟨l.toArray⟩):=⟨q3,q5,c1⟩
      go_region_held3 (fun w'=>w'.cell? ⟨W.heap.size+1,0,none⟩=some (.slice (some ⟨g,o,none⟩) (r.length+1) cap)∧w'.cell? ⟨W.heap.size+1,2,none⟩=some (.int .i64 d)∧w'.cell? ⟨g,o,none⟩=some (.string ⟨l.toArray⟩)) (exact hSS1) (first | (go_at_call 128;refine (hcS _).mono ?_;rintro e w' ⟨rfl,hw⟩;rw [hw];clear hw))
      go_wp2_with (go_at_call 129;refine (HC.out _ B1).mono ?_;rintro e w2 ⟨ev,n,rfl,hf,hSS,K2⟩)
      go_ret
      exact ⟨ev,n,rfl,hf,hSS,K2⟩
    · rw [if_neg (by decide),if_pos rfl] at hF
      have hcC:∀ w1,Below W2.heap.size W2 w1→Calls Tryz.prog 130 #[.agg #[.func (.func q.kd) #[] #[.pointer (some ⟨q.bd,0,none⟩)],.func (.func q.kl) #[] #[.pointer (some ⟨q.bl,0,none⟩)]],.agg #[.slice (some ⟨g,o,none⟩) (r.length+1) cap,.int .i64 a,.int .i64 d]] w1 fun e w'=>∃ ev n,e=.returned (.int .i64 ((n:Nat):Int))∧FirstOk f d (l :: r) ev n∧(∃ S,SpOk a (a+n) S ev∧q.Told (acc++S) w')∧Kt q none W.heap.size W w':=fun w1 b1=>by
        obtain ⟨_,b0,t1,_⟩:=hK w1 b1
        have s1:=hS.below b0 hglt
        have o1:=hq.off hT b0 hO
        refine (dheading_any q hq acc g o cap a d l r w1 t1 (by omega) s1 o1 hsz (by omega)).mono ?_
        rintro e w' ⟨rfl,hSS,K⟩
        exact ⟨_,_,rfl,hF,hSS,(hq.kt hT b0).trans (K.mono b0.size)⟩
      have HC:Hid _:=hcC
      clear hcC hF hstep hE hfl hT hS hO h4 h5 hkz hsv hbb hq hK hK3
      go_enter Tryz.func108,Tryz.ntmps108
      go_wp2_with (go_at_call 127;refine (hcB _).mono ?_;rintro e w1 ⟨rfl,b1⟩;obtain ⟨⟨⟨q1,q2⟩,⟨q3,q4,q5⟩⟩,b9,_⟩:=HK.out w1 b1;have c1:=(b9.cell (p:=⟨g,o,none⟩) hglt).trans hcell)
      have B1:Below W2.heap.size W2 w1.drew:=b1.drew
      have hSS1:w1.drew.cell? ⟨W.heap.size+1,0,none⟩=some (.slice (some ⟨g,o,none⟩) (r.length+1) cap)∧w1.drew.cell? ⟨W.heap.size+1,2,none⟩=some (.int .i64 d)∧w1.drew.cell? ⟨g,o,none⟩=some (.string ⟨l.toArray⟩):=⟨q3,q5,c1⟩
      go_region_held3 (fun w'=>w'.cell? ⟨W.heap.size+1,0,none⟩=some (.slice (some ⟨g,o,none⟩) (r.length+1) cap)∧w'.cell? ⟨W.heap.size+1,2,none⟩=some (.int .i64 d)∧w'.cell? ⟨g,o,none⟩=some (.string ⟨l.toArray⟩)) (exact hSS1) (first | (go_at_call 128;refine (hcS _).mono ?_;rintro e w' ⟨rfl,hw⟩;rw [hw];clear hw))
      go_wp2_with (go_at_call 130;refine (HC.out _ B1).mono ?_;rintro e w2 ⟨ev,n,rfl,hf,hSS,K2⟩)
      go_ret
      exact ⟨ev,n,rfl,hf,hSS,K2⟩
    · rw [if_neg (by decide),if_neg (by decide),if_pos rfl] at hF
      have hlt:=(h4 rfl).2
      have hq1:=quote_one l r (h4 rfl).1
      have hcC:∀ w1,Below W2.heap.size W2 w1→Calls Tryz.prog 131 #[.agg #[.func (.func q.kd) #[] #[.pointer (some ⟨q.bd,0,none⟩)],.func (.func q.kl) #[] #[.pointer (some ⟨q.bl,0,none⟩)]],.agg #[.slice (some ⟨g,o,none⟩) (r.length+1) cap,.int .i64 a,.int .i64 d]] w1 fun e w'=>∃ ev n,e=.returned (.int .i64 ((n:Nat):Int))∧FirstOk f d (l :: r) ev n∧(∃ S,SpOk a (a+n) S ev∧q.Told (acc++S) w')∧Kt q none W.heap.size W w':=fun w1 b1=>by
        obtain ⟨_,b0,t1,_⟩:=hK w1 b1
        have s1:=hS.below b0 hglt
        have o1:=hq.off hT b0 hO
        refine (dquote_any q hq f d ⟨hd1,hlt⟩ (hE hlt) (fun ls=>by have:=hfl ls;omega) acc g o cap a (l :: r) w1 t1 (by rw [hL];exact hlen) s1 hM hq1 (by rw [hL];exact ha)).mono ?_
        rintro e w' ⟨rfl,hSS,K⟩
        exact ⟨_,_,rfl,hF,hSS,(hq.kt hT b0).trans (K.mono b0.size)⟩
      have HC:Hid _:=hcC
      clear hcC hF hstep hE hfl hT hS hO h4 h5 hkz hsv hbb hq hK hK3
      go_enter Tryz.func108,Tryz.ntmps108
      go_wp2_with (go_at_call 127;refine (hcB _).mono ?_;rintro e w1 ⟨rfl,b1⟩;obtain ⟨⟨⟨q1,q2⟩,⟨q3,q4,q5⟩⟩,b9,_⟩:=HK.out w1 b1;have c1:=(b9.cell (p:=⟨g,o,none⟩) hglt).trans hcell)
      have B1:Below W2.heap.size W2 w1.drew:=b1.drew
      have hSS1:w1.drew.cell? ⟨W.heap.size+1,0,none⟩=some (.slice (some ⟨g,o,none⟩) (r.length+1) cap)∧w1.drew.cell? ⟨W.heap.size+1,2,none⟩=some (.int .i64 d)∧w1.drew.cell? ⟨g,o,none⟩=some (.string ⟨l.toArray⟩):=⟨q3,q5,c1⟩
      go_region_held3 (fun w'=>w'.cell? ⟨W.heap.size+1,0,none⟩=some (.slice (some ⟨g,o,none⟩) (r.length+1) cap)∧w'.cell? ⟨W.heap.size+1,2,none⟩=some (.int .i64 d)∧w'.cell? ⟨g,o,none⟩=some (.string ⟨l.toArray⟩)) (exact hSS1) (first | (go_at_call 128;refine (hcS _).mono ?_;rintro e w' ⟨rfl,hw⟩;rw [hw];clear hw))
      go_wp2_with (go_at_call 131;refine (HC.out _ B1).mono ?_;rintro e w2 ⟨ev,n,rfl,hf,hSS,K2⟩)
      go_ret
      exact ⟨ev,n,rfl,hf,hSS,K2⟩
    · rw [if_neg (by decide),if_neg (by decide),if_neg (by decide),if_pos rfl] at hF
      have hlt:=(h5 rfl).2
      have hit:itemL l=true:=(h5 rfl).1
      have hcC:∀ w1,Below W2.heap.size W2 w1→Calls Tryz.prog 132 #[.agg #[.func (.func q.kd) #[] #[.pointer (some ⟨q.bd,0,none⟩)],.func (.func q.kl) #[] #[.pointer (some ⟨q.bl,0,none⟩)]],.agg #[.slice (some ⟨g,o,none⟩) (r.length+1) cap,.int .i64 a,.int .i64 d]] w1 fun e w'=>∃ ev n,e=.returned (.int .i64 ((n:Nat):Int))∧FirstOk f d (l :: r) ev n∧(∃ S,SpOk a (a+n) S ev∧q.Told (acc++S) w')∧Kt q none W.heap.size W w':=fun w1 b1=>by
        obtain ⟨_,b0,t1,_⟩:=hK w1 b1
        have s1:=hS.below b0 hglt
        have o1:=hq.off hT b0 hO
        refine (dlist_any q hq f d ⟨hd1,hlt⟩ (hE hlt) hfl acc g o cap a (l :: r) w1 t1 (by rw [hL];exact hlen) s1 o1 hM (by simp) hit (by rw [hL];exact ha)).mono ?_
        rintro e w' ⟨rfl,hSS,K⟩
        exact ⟨_,_,rfl,first_behind f d _ _ _ hF,hSS,(hq.kt hT b0).trans (K.mono b0.size)⟩
      have HC:Hid _:=hcC
      clear hcC hF hstep hE hfl hT hS hO h4 h5 hkz hsv hbb hq hK hK3
      go_enter Tryz.func108,Tryz.ntmps108
      go_wp2_with (go_at_call 127;refine (hcB _).mono ?_;rintro e w1 ⟨rfl,b1⟩;obtain ⟨⟨⟨q1,q2⟩,⟨q3,q4,q5⟩⟩,b9,_⟩:=HK.out w1 b1;have c1:=(b9.cell (p:=⟨g,o,none⟩) hglt).trans hcell)
      have B1:Below W2.heap.size W2 w1.drew:=b1.drew
      have hSS1:w1.drew.cell? ⟨W.heap.size+1,0,none⟩=some (.slice (some ⟨g,o,none⟩) (r.length+1) cap)∧w1.drew.cell? ⟨W.heap.size+1,2,none⟩=some (.int .i64 d)∧w1.drew.cell? ⟨g,o,none⟩=some (.string ⟨l.toArray⟩):=⟨q3,q5,c1⟩
      go_region_held3 (fun w'=>w'.cell? ⟨W.heap.size+1,0,none⟩=some (.slice (some ⟨g,o,none⟩) (r.length+1) cap)∧w'.cell? ⟨W.heap.size+1,2,none⟩=some (.int .i64 d)∧w'.cell? ⟨g,o,none⟩=some (.string ⟨l.toArray⟩)) (exact hSS1) (first | (go_at_call 128;refine (hcS _).mono ?_;rintro e w' ⟨rfl,hw⟩;rw [hw];clear hw))
      go_wp2_with (go_at_call 132;refine (HC.out _ B1).mono ?_;rintro e w2 ⟨ev,n,rfl,hf,hSS,K2⟩)
      go_ret
      exact ⟨ev,n,rfl,hf,hSS,K2⟩
    · rw [if_neg q2,if_neg q3,if_neg q4,if_neg q5] at hF
      have hk0:kindOf sv=0:=by rw [kindOf,if_neg q2,if_neg q3,if_neg q4,if_neg q5]
      have hs0:=hkz.1 hk0
      have hpf:paraFrom (l :: r) d 0=paraFrom (l :: r) d 1:=para_lt (l :: r) d 0 (by simp) (by show (!blankL l && decide (startsS ⟨l.toArray⟩ d=0))=true;rw [hbb,hsv,hs0];rfl)
      rw [← hpf] at hF
      have hp1:1≤paraFrom (l :: r) d 0:=hF.1
      rw [hk0] at hcS
      have hcC:∀ w1,Below W2.heap.size W2 w1→Calls Tryz.prog 133 #[.agg #[.func (.func q.kd) #[] #[.pointer (some ⟨q.bd,0,none⟩)],.func (.func q.kl) #[] #[.pointer (some ⟨q.bl,0,none⟩)]],.agg #[.slice (some ⟨g,o,none⟩) (r.length+1) cap,.int .i64 a,.int .i64 d]] w1 fun e w'=>∃ ev n,e=.returned (.int .i64 ((n:Nat):Int))∧FirstOk f d (l :: r) ev n∧(∃ S,SpOk a (a+n) S ev∧q.Told (acc++S) w')∧Kt q none W.heap.size W w':=fun w1 b1=>by
        obtain ⟨_,b0,t1,_⟩:=hK w1 b1
        have s1:=hS.below b0 hglt
        have o1:=hq.off hT b0 hO
        refine (dpara_any q hq acc d g o cap a (l :: r) w1 t1 (by omega) s1 hM hp1 (by rw [hL];exact ha)).mono ?_
        rintro e w' ⟨rfl,hSS,K⟩
        exact ⟨_,_,rfl,hF,hSS,(hq.kt hT b0).trans (K.mono b0.size)⟩
      have HC:Hid _:=hcC
      clear hp1 hpf hs0 hk0 q2 q3 q4 q5
      clear hcC hF hstep hE hfl hT hS hO h4 h5 hkz hsv hbb hq hK hK3
      go_enter Tryz.func108,Tryz.ntmps108
      go_wp2_with (go_at_call 127;refine (hcB _).mono ?_;rintro e w1 ⟨rfl,b1⟩;obtain ⟨⟨⟨q1,q2⟩,⟨q3,q4,q5⟩⟩,b9,_⟩:=HK.out w1 b1;have c1:=(b9.cell (p:=⟨g,o,none⟩) hglt).trans hcell)
      have B1:Below W2.heap.size W2 w1.drew:=b1.drew
      have hSS1:w1.drew.cell? ⟨W.heap.size+1,0,none⟩=some (.slice (some ⟨g,o,none⟩) (r.length+1) cap)∧w1.drew.cell? ⟨W.heap.size+1,2,none⟩=some (.int .i64 d)∧w1.drew.cell? ⟨g,o,none⟩=some (.string ⟨l.toArray⟩):=⟨q3,q5,c1⟩
      go_region_held3 (fun w'=>w'.cell? ⟨W.heap.size+1,0,none⟩=some (.slice (some ⟨g,o,none⟩) (r.length+1) cap)∧w'.cell? ⟨W.heap.size+1,2,none⟩=some (.int .i64 d)∧w'.cell? ⟨g,o,none⟩=some (.string ⟨l.toArray⟩)) (exact hSS1) (first | (go_at_call 128;refine (hcS _).mono ?_;rintro e w' ⟨rfl,hw⟩;rw [hw];clear hw))
      go_wp2_with (go_at_call 133;refine (HC.out _ B1).mono ?_;rintro e w2 ⟨ev,n,rfl,hf,hSS,K2⟩)
      go_ret
      exact ⟨ev,n,rfl,hf,hSS,K2⟩
end Go.Proofs.YtljcljipppjnoaaGreatDoor
namespace Go.Proofs.YtljcljipppjnoaaGreatDoor
open Go.RowKit Go.Shelf
set_option maxRecDepth 100000 in
set_option maxHeartbeats 4000000 in
theorem each_any (q:Tel) (hq:q.Ok) (f:List (List UInt8)→List Ev) (d:Int) (hd:0≤d∧d≤3) (hE:d < 3→EachC q (d+1) f) (hfl:∀ ls,(f ls).length≤12 * ls.length):EachC q d (blocksF f d):=by
  intro acc v ls a W hT hL hO hM ha hlen
  obtain ⟨W2,hW2⟩:∃ W2,((W.alloc (.cells #[.func (.func q.kd) #[] #[.pointer (some ⟨q.bd,0,none⟩)],.func (.func q.kl) #[] #[.pointer (some ⟨q.bl,0,none⟩)]] 159)).alloc (.cells #[v,.int .i64 a,.int .i64 d] 162))=W2:=⟨_,rfl⟩
  have z2:W2.heap.size=W.heap.size+1+1:=by rw [← hW2];simp
  obtain ⟨x1,x2,x3⟩:=Obj.fi q v (.int .i64 a) (.int .i64 d) W W2 (by rw [hW2,← z2];exact Below.refl _ _)
  have hT2:=hq.below hT x3
  have hK2:Kt q none W.heap.size W W2:=hq.kt hT x3
  have hnew:∀ b,W.heap.size≤b→¬ q.Own W2 b:=fun b hb=>hq.new hT x3 hb
  rcases hL with ⟨rfl,rfl⟩ | ⟨g,o,cap,rfl,hS⟩
  · have HZ:Hid (blocksF f d []=[]):=by show _=_;simp [blocksF]
    obtain ⟨c1,c2,c3⟩:=cells3 x2
    have HF:Hid (q.Told acc W2∧Kt q none W.heap.size W W2):=⟨hT2,hK2⟩
    clear hq hE hT hO x1 x2 x3 hT2 hK2 hnew
    go_enter Tryz.func83,Tryz.ntmps83
    go_wp2
    go_loopg [] 1 (fun gk wr=>wr=W2)
    case atStart=>rfl
    case round =>
      have hw:=hrel
      subst hw
      go_wp2
      go_end0
      rw [HZ.out]
      exact ⟨rfl,⟨[],SpOk.nil a,by rw [List.append_nil];exact HF.out.1⟩,HF.out.2⟩
  · have hOg:=hq.off hT x3 (hO g rfl)
    have hS2:=hS.below x3 hS.lt
    have hglt:=hS.lt
    have hll:=tot_len ls
    have HD:Hid (0≤d∧d≤3):=hd
    have hd1:=hd.1
    have hd2:=hd.2
    have HQ:Hid q.Ok:=hq
    have HE:Hid (d < 3→EachC q (d+1) f):=hE
    have HFL:Hid (∀ ls,(f ls).length≤12 * ls.length):=hfl
    have HM:Hid (tot ls≤1073741824):=hM
    have HO:Hid (¬ q.Own W2 g∧¬ q.Own W2 W.heap.size∧¬ q.Own W2 (W.heap.size+1)):=⟨hOg,hnew _ (by omega),hnew _ (by omega)⟩
    have HX1:Hid _:=x1
    have HK2:Hid (Kt q none W.heap.size W W2):=hK2
    obtain ⟨al,hal⟩:∃ al,blocksF f d ls=al:=⟨_,rfl⟩
    rw [hal]
    have HA:Hid (blocksF f d ls=al):=hal
    have z3:W2.heap.size≤W.heap.size+2∧W.heap.size+2≤W2.heap.size:=by omega
    clear hE hfl hM hO hOg hd hal hq hS hT x3 hnew hK2 z2
    go_enter Tryz.func83,Tryz.ntmps83
    go_wp2
    go_loopg [] ls.length (fun gk wr=>∃ (k oo cc:Nat) (S:List Stp) (done:List Ev) (rs:List (List UInt8)),rs.length≤gk∧Hid (rs=ls.drop k)∧wr.heap[W.heap.size+1]?=some (.cells #[.slice (some ⟨g,oo,none⟩) rs.length cc,.int .i64 ((a+k:Nat):Int),.int .i64 d] 162 (0,0))∧Hid (Strs g oo cc rs wr)∧Hid (q.Told (acc++S) wr)∧Hid (SpOk a (a+k) S done)∧Hid (Kt q (some (W.heap.size+1)) W2.heap.size W2 wr)∧Hid (done++blocksF f d rs=al)∧done.length+16 * rs.length≤16 * ls.length∧k+rs.length=ls.length)
    case atStart=>exact ⟨0,o,cap,[],[],ls,Nat.le_refl _,(by show _=_;rfl),x2,hS2,(by show q.Told (acc++[]) W2;rw [List.append_nil];exact hT2),SpOk.nil a,Kt.refl _ _ _ _,HA,by simp,by omega⟩
    case round =>
      clear hS2 hT2 x2 x1
      obtain ⟨k,oo,cc,S,done,rs,hgk,HR,hxp,HS,HT,HSp,HK,HJ,hdl,hkl⟩:=hrel
      have hks:=HK.out.size
      obtain ⟨c1,c2,c3⟩:=cells3 hxp
      have hOw:¬ q.Own wr g∧¬ q.Own wr (W.heap.size+1):=⟨HK.out.off (by omega) HO.out.1,HK.out.off (by omega) HO.out.2.2⟩
      obtain ⟨c4,c5⟩:=cells2 ((HK.out.block W.heap.size (by omega) (by simp) HO.out.2.1).trans HX1.out)
      cases rs with
      | nil =>
        have HF:Hid (done=al∧ls.length=k):=⟨by rw [← HJ.out];simp [blocksF],by simp at hkl;omega⟩
        go_wp2
        go_end0
        rw [← HF.out.1,HF.out.2]
        exact ⟨rfl,⟨S,HSp.out,HT.out⟩,HK2.out.trans ((HK.out.mono (by omega)).past (by omega))⟩
      | cons l r =>
        rw [List.length_cons] at hgk hkl hdl hxp c1
        have hfit:=HS.out.fits
        have hmax:=HS.out.max
        have hSl:=HSp.out.len
        have hMd:tot (l :: r)≤1073741824:=by rw [HR.out];exact Nat.le_trans (tot_drop ls k) HM.out
        have hgw:g < wr.heap.size:=by omega
        have hcF:=fun W' (hb:Below wr.heap.size wr W')=>dfirst_any q HQ.out f d HD.out HE.out HFL.out (acc++S) g oo cc (a+k) l r W' (HQ.out.below HT.out hb) (by rw [List.length_append,List.length_cons];omega) (HS.out.below hb hgw) (HQ.out.off HT.out hb hOw.1) hMd (by rw [List.length_cons];omega)
        have HB:Hid (∀ n ev w1,FirstOk f d (l :: r) ev n→Kt q none wr.heap.size wr w1→Calls Tryz.prog 107 #[.agg #[.slice (some ⟨g,oo,none⟩) (r.length+1) cc,.int .i64 ((a+k:Nat):Int),.int .i64 d],.int .i64 n] w1 fun e w'=>∃ o1 cap1 rs2,e=.returned (.agg #[.slice (some ⟨g,o1,none⟩) rs2.length cap1,.int .i64 ((a+k+n:Nat):Int),.int .i64 d])∧Hid (rs2=(l :: r).drop n)∧Strs g o1 cap1 rs2 w1∧Below w1.heap.size w1 w'):=fun n ev w1 h1 h2=>(behind_nat g oo cc (a+k) n (l :: r) d w1 (HS.out.kept h2 hgw (by simp) hOw.1) h1.2.1 (by have:=h1.2.1;rw [List.length_cons] at this;omega)).mono fun e w' h=>by
          obtain ⟨o1,cap1,h1,h2,h3⟩:=h
          exact ⟨o1,cap1,_,h1,rfl,h2,h3⟩
        have HXP:Hid (∀ w1,Kt q none wr.heap.size wr w1→w1.heap[W.heap.size+1]?=some (.cells #[.slice (some ⟨g,oo,none⟩) (r.length+1) cc,.int .i64 ((a+k:Nat):Int),.int .i64 d] 162 (0,0))∧¬ q.Own w1 (W.heap.size+1)):=fun w1 h=>⟨(h.block _ (by omega) (by simp) hOw.2).trans hxp,h.off (by omega) hOw.2⟩
        have hB0:Below wr.heap.size wr wr.drew:=(Below.refl _ wr).drew
        have HKD:Hid (∀ w1,Kt q none wr.drew.heap.size wr.drew w1→Kt q none wr.heap.size wr w1):=fun w1 h=>(HQ.out.kt HT.out hB0).trans (h.mono (Nat.le_refl _))
        clear hOw hxp hMd
        go_wp2
        go_region_law (first
          | (go_simp;go_at_call 108;refine (hcF _ hB0).mono ?_;rintro e w1 ⟨ev,n,rfl,hf,⟨S',hS',T1⟩,K1'⟩;have K1:=HKD.out w1 K1';have e1:=(HXP.out w1 K1).1;obtain ⟨r1,r2,r3⟩:=cells3 e1;simp only [])
          | (go_simp;go_at_call 107;refine (HB.out n ev w1 hf K1).mono ?_;rintro e w2 ⟨o2,cap2,rs2,rfl,hr2,hs2,b2⟩;have e2:=(b2.block (W.heap.size+1) (by have:=K1.size;omega)).trans e1;have f0:=row_free (i:=0) e2;have f1:=row_free (i:=1) e2;have f2:=row_free (i:=2) e2;obtain ⟨s1,s2,s3⟩:=cells3 e2;simp only []))
        all_goals
          obtain ⟨v1,v2,v3,v4,v5,v6⟩:=three_set (x':=.slice (some ⟨g,o2,none⟩) rs2.length cap2) (y':=.int .i64 ((a:Int)+(k:Int)+(n:Int))) (z':=.int .i64 d) e2
          have hk1:=K1.size
          have hb2:=b2.size
          have T2:=HQ.out.below T1 b2
          obtain ⟨T3,K3,_⟩:=HQ.out.box T2 (HQ.out.off T1 b2 (HXP.out w1 K1).2) v2 v3 v4 v5 v6
          have K4:=HK.out.trans (((K1.mono hks).weak).trans (((HQ.out.kt T1 b2).mono (by omega)).trans (K3 W2.heap.size)))
          have hs3:=(hs2.below b2 (by omega)).same (v2 g (by omega)) (Nat.le_of_eq v3.symm)
          obtain ⟨q1,q2,q3,q4⟩:=hf
          rw [List.length_cons] at q2
          have hnl:rs2.length+n≤r.length+1∧r.length+1≤rs2.length+n:=by rw [hr2.out,List.length_drop,List.length_cons];omega
          rw [← hr2.out] at q3
          have hq5:=hS'.len
          have HZ:Hid _:=And.intro v1 (And.intro hs3 (And.intro T3 (And.intro K4 (And.intro q3 (HSp.out.app hS')))))
          have HR2:Hid (rs2=ls.drop (k+n)):=by show _=_;rw [hr2.out,HR.out,List.drop_drop]
          clear v1 v2 v3 v4 v5 v6 T1 T2 T3 K1 K1' K3 K4 hs2 hs3 e1 e2 f0 f1 f2 s1 s2 s3 r1 r2 r3 b2 q3 hS'
          go_wp2
          go_roundg rs2.length
          case measure=>omega
          case rel =>
            refine ⟨k+n,o2,cap2,S++S',done++ev,rs2,Nat.le_refl _,HR2,?_,HZ.out.2.1,?_,?_,HZ.out.2.2.2.1,?_,?_,?_⟩
            · have:=HZ.out.1
              rw [show ((a+(k+n):Nat):Int)=(a:Int)+(k:Int)+(n:Int) by omega]
              exact this
            · show q.Told (acc++(S++S')) _
              rw [← List.append_assoc]
              exact HZ.out.2.2.1
            · show SpOk a (a+(k+n)) _ _
              rw [← Nat.add_assoc]
              exact HZ.out.2.2.2.2.2
            · show done++ev++blocksF f d rs2=al
              rw [List.append_assoc,HZ.out.2.2.2.2.1]
              exact HJ.out
            · rw [List.length_append]
              omega
            · omega
theorem each_at (q:Tel) (hq:q.Ok) (n:Nat) (hn:n≤3):EachC q (3 - (n:Int)) (blocksAt n):=by
  induction n with
  | zero=>exact each_any q hq (fun _=>[]) 3 ⟨by decide,by decide⟩ (fun h=>absurd h (by decide)) (by simp)
  | succ n ih =>
    have h:=each_any q hq (blocksAt n) (2 - (n:Int)) ⟨by omega,by omega⟩ (fun _=>by rw [show (2 - (n:Int)+1)=3 - (n:Int) by omega];exact ih (by omega)) (fun ls=>Nat.le_trans (blocksAt_le n ls) (Nat.mul_le_mul_right _ (by omega)))
    rw [show (3 - ((n+1:Nat):Int))=2 - (n:Int) by omega]
    exact h
theorem each_doc (q:Tel) (hq:q.Ok):EachC q 0 (blocksAt 3):=each_at q hq 3 (Nat.le_refl _)
end Go.Proofs.YtljcljipppjnoaaGreatDoor
namespace Go.Proofs.YtljcljipppjnoaaGreatDoor
open Go.RowKit Go.Shelf
theorem la_none (l:List UInt8) (cur:List UInt8) (h:∀ x ∈ l,x ≠ 10):linesAll cur l=[cur++l]:=by
  induction l generalizing cur with
  | nil=>simp [linesAll]
  | cons c r ih =>
    rw [linesAll,if_neg (h c (by simp)),ih _ (fun x hx=>h x (by simp [hx]))]
    simp
theorem la_some (a b:List UInt8) (cur:List UInt8) (h:∀ x ∈ a,x ≠ 10):linesAll cur (a++10 :: b)=(cur++a) :: linesAll [] b:=by
  induction a generalizing cur with
  | nil=>simp [linesAll]
  | cons c r ih =>
    rw [List.cons_append,linesAll,if_neg (h c (by simp)),ih _ (fun x hx=>h x (by simp [hx]))]
    simp
theorem index_ten (l:List UInt8):(Lib.index l [10]=-1∧∀ x ∈ l,x ≠ 10)∨∃ a b,l=a++10 :: b∧Lib.index l [10]=(a.length:Int)∧∀ x ∈ a,x ≠ 10:=by
  induction l with
  | nil=>exact Or.inl ⟨rfl,fun x hx=>by cases hx⟩
  | cons c r ih =>
    by_cases hc:c=10
    · subst hc
      exact Or.inr ⟨[],r,rfl,rfl,fun x hx=>by cases hx⟩
    · have hp:([10]:List UInt8).isPrefixOf (c :: r)=false:=by
        have:((10:UInt8) == c)=false:=by rw [beq_eq_false_iff_ne];exact fun h=>hc h.symm
        simp [List.isPrefixOf,this]
      rcases ih with ⟨h1,h2⟩ | ⟨a,b,h1,h2,h3⟩
      · refine Or.inl ⟨?_,fun x hx=>?_⟩
        · rw [Lib.index,hp,h1];rfl
        · rcases List.mem_cons.1 hx with rfl | hx
          · exact hc
          · exact h2 x hx
      · refine Or.inr ⟨c :: a,b,by rw [h1];rfl,?_,fun x hx=>?_⟩
        · rw [Lib.index,hp,h2]
          have:((a.length:Int) == -1)=false:=by rw [beq_eq_false_iff_ne];omega
          rw [this]
          simp
        · rcases List.mem_cons.1 hx with rfl | hx
          · exact hc
          · exact h3 x hx
theorem split_all (l:List UInt8):Lib.splitK [10] 0 (Lib.count l [10]) l=linesAll [] l:=by
  induction hm:l.length using Nat.strongRecOn generalizing l with
  | _ m ih =>
    rcases index_ten l with ⟨h1,h2⟩ | ⟨a,b,h1,h2,h3⟩
    · rw [Lib.count_miss h1,la_none l [] h2]
      rfl
    · have hd:l.drop (a.length+1)=b:=by rw [h1];simp
      rw [Lib.count_hit (by decide) h2,List.length_singleton,hd,Nat.add_comm,Lib.splitK,h2]
      have:((a.length:Int) == -1)=false:=by rw [beq_eq_false_iff_ne];omega
      rw [this]
      simp only [Bool.false_eq_true,if_false,Int.toNat_natCast,Nat.add_zero,List.length_singleton]
      rw [hd,ih b.length (by rw [← hm,h1];simp;omega) b rfl]
      conv=>rhs;rw [h1]
      rw [la_some a b [] h3]
      congr 1
      rw [h1]
      simp
end Go.Proofs.YtljcljipppjnoaaGreatDoor
namespace Go.Proofs.YtljcljipppjnoaaGreatDoor
open Go.RowKit Go.Shelf
set_option maxRecDepth 100000 in
set_option maxHeartbeats 1000000 in
theorem dlines_any (s:ByteArray) (m:Int) (w:World) (hs:s.size≤1073741824) (hm:w.cell? ⟨6,0,none⟩=some (.int .i64 m)) :
    Calls Tryz.prog 84 #[.string s] w fun e w'=>∃ v,e=.returned v∧LinesV v (linesL [] s.data.toList) w'∧(∀ g,v.ownBlock=some g→w.heap.size≤g)∧Below w.heap.size w w':=by
  have c:=sh_split s m w (by omega) hm
  have hsp:=Lib.splitB_data ⟨#[10]⟩ 0 (Lib.countB s ⟨#[10]⟩) s
  have hal:=Lib.splitB_all ⟨#[10]⟩ (by decide) 0 _ s rfl
  have hsa:Lib.splitK (⟨#[10]⟩:ByteArray).data.toList 0 (Lib.countB s ⟨#[10]⟩) s.data.toList=linesAll [] s.data.toList:=split_all s.data.toList
  rw [hsa] at hsp
  have hla:=lines_all [] s.data.toList
  have htt:=tot_all [] s.data.toList
  have htl:=tot_len (linesAll [] s.data.toList)
  have hsl:s.data.toList.length=s.size:=by rw [Array.length_toList];rfl
  simp only [List.length_nil,Nat.zero_add] at htt
  generalize Lib.splitB ⟨#[10]⟩ 0 (Lib.countB s ⟨#[10]⟩) s=ps at c hsp hal
  generalize linesAll [] s.data.toList=P at hsp hla htt htl
  have hpl:P.length=Lib.countB s ⟨#[10]⟩+1:=by rw [← hsp,List.length_map];exact hal
  generalize Lib.countB s ⟨#[10]⟩=n at c hal hpl
  have hps:ps.map Value.string=strCs P:=by
    rw [← hsp,strCs,List.map_map]
    apply List.map_congr_left
    intro x _
    rfl
  rw [hps] at c
  have hn:n≤1073741824:=by omega
  have hcells:∀ (j:Nat) (l:List UInt8),P[j]?=some l→(w.alloc (.cells (strCs P).toArray 9)).cell? ⟨w.heap.size,0+j,none⟩=some (.string ⟨l.toArray⟩):=by
    intro j l hj
    have:=cell_of_row (w.alloc (.cells (strCs P).toArray 9)) w.heap.size (0+j) _ _ _ (heap_alloc_new w _)
    rw [this]
    simp [strCs,hj]
  have hbe:Below w.heap.size w (w.alloc (.cells (strCs P).toArray 9)):=(Below.refl _ w).alloc (Nat.le_refl _) _
  obtain ⟨l,hl⟩:∃ l,P[n]?=some l:=⟨P[n],List.getElem?_eq_getElem (by omega)⟩
  have hlast:P.getLast?=some l:=by rw [List.getLast?_eq_getElem?,hpl];exact hl
  have hcl:=hcells n l hl
  rw [Nat.zero_add] at hcl
  rw [hlast] at hla
  have HS:∀ k,k≤n+1→Strs w.heap.size 0 (n+1) (P.take k) (w.alloc (.cells (strCs P).toArray 9)):=by
    intro k hk
    refine ⟨by rw [List.length_take];omega,by omega,by simp,fun j x hj=>hcells j x ?_⟩
    rw [List.getElem?_take] at hj
    split at hj
    · exact hj
    · cases hj
  have hemp:(⟨l.toArray⟩:ByteArray).toList=l:=by rw [list_of]
  clear hcells hsp hal hsa hps hlast hl
  by_cases hle:l=[]
  · subst hle
    rw [if_pos rfl,List.dropLast_eq_take] at hla
    have HF:Hid (LinesV (.slice (some ⟨w.heap.size,0,none⟩) n (n+1)) (linesL [] s.data.toList) (w.alloc (.cells (strCs P).toArray 9))):=by
      refine Or.inr ⟨w.heap.size,0,n+1,?_,?_⟩
      · rw [hla,List.length_take,hpl,Nat.add_sub_cancel];congr 1;omega
      · rw [hla,hpl,Nat.add_sub_cancel];exact HS n (by omega)
    clear HS hla htt htl hpl
    go_enter Tryz.func84,Tryz.ntmps84
    go_wp2_with (go_at_call 109;refine c.mono ?_;rintro e w1 ⟨rfl,hw⟩;rw [hw];clear hw)
    go_ret
    exact ⟨_,rfl,HF.out,fun g hg=>by cases hg;exact Nat.le_refl _,hbe⟩
  · rw [if_neg (by simpa using hle)] at hla
    have HF:Hid (LinesV (.slice (some ⟨w.heap.size,0,none⟩) (n+1) (n+1)) (linesL [] s.data.toList) (w.alloc (.cells (strCs P).toArray 9))):=by
      refine Or.inr ⟨w.heap.size,0,n+1,?_,?_⟩
      · rw [hla,hpl]
      · rw [hla]
        have:=HS (n+1) (Nat.le_refl _)
        rw [List.take_of_length_le (by omega)] at this
        exact this
    have hle2:l.isEmpty=false:=by
      cases l with
      | nil=>exact absurd rfl hle
      | cons a b=>rfl
    clear HS hla htt htl hpl hle
    go_enter Tryz.func84,Tryz.ntmps84
    go_wp2_with (go_at_call 109;refine c.mono ?_;rintro e w1 ⟨rfl,hw⟩;rw [hw];clear hw)
    go_ret
    exact ⟨_,rfl,HF.out,fun g hg=>by cases hg;exact Nat.le_refl _,hbe⟩
set_option maxRecDepth 100000 in
set_option maxHeartbeats 2000000 in
theorem dEach_any (q:Tel) (hq:q.Ok) (t:List UInt8) (m:Int) (W:World) (hT:q.Told [] W) (ht:t.length≤16777216) (hm:W.cell? ⟨6,0,none⟩=some (.int .i64 m)) :
    Calls Tryz.prog 60 #[.string ⟨t.toArray⟩,.func (.func q.kd) #[] #[.pointer (some ⟨q.bd,0,none⟩)],.func (.func q.kl) #[] #[.pointer (some ⟨q.bl,0,none⟩)]] W fun e w'=>e=.returned (.tuple #[])∧(∃ S n,SpOk 0 n S (blocksAt 3 (linesL [] t))∧q.Told S w')∧Kt q none W.heap.size W w':=by
  have hml:6 < W.heap.size:=by
    rcases Nat.lt_or_ge 6 W.heap.size with h | h
    · exact h
    · simp [World.cell?,Array.getElem?_eq_none h] at hm
  obtain ⟨W1,hW1⟩:∃ W1,W.alloc (.cells #[.func (.func q.kd) #[] #[.pointer (some ⟨q.bd,0,none⟩)],.func (.func q.kl) #[] #[.pointer (some ⟨q.bl,0,none⟩)]] 159)=W1:=⟨_,rfl⟩
  have x1:W1.heap[W.heap.size]?=some (.cells #[.func (.func q.kd) #[] #[.pointer (some ⟨q.bd,0,none⟩)],.func (.func q.kl) #[] #[.pointer (some ⟨q.bl,0,none⟩)]] 159 (0,0)):=by rw [← hW1];exact heap_alloc_new W _
  have hb1:Below W.heap.size W W1:=by rw [← hW1];exact (Below.refl _ W).alloc (Nat.le_refl _) _
  have z1:W1.heap.size=W.heap.size+1:=by rw [← hW1];simp
  have hB0:Below W1.heap.size W1 W1.drew:=(Below.refl _ W1).drew
  have c1:=dlines_any ⟨t.toArray⟩ m W1.drew (by rw [size_of];omega) ((hb1.cell (p:=⟨6,0,none⟩) hml).trans hm)
  have e1:(⟨t.toArray⟩:ByteArray).data.toList=t:=rfl
  rw [e1] at c1
  have c2:Calls Tryz.prog 84 #[.string ⟨t.toArray⟩] W1.drew fun e w'=>∃ p ln cp,e=.returned (.slice p ln cp)∧LinesV (.slice p ln cp) (linesL [] t) w'∧(∀ g,(Value.slice p ln cp).ownBlock=some g→W1.drew.heap.size≤g)∧Below W1.drew.heap.size W1.drew w':=by
    refine c1.mono ?_
    rintro e w' ⟨v,rfl,hL,hg,hb⟩
    rcases hL with ⟨h1,rfl⟩ | ⟨g,o,cap,rfl,hS⟩
    · exact ⟨_,_,_,rfl,Or.inl ⟨h1,rfl⟩,hg,hb⟩
    · exact ⟨_,_,_,rfl,Or.inr ⟨g,o,cap,rfl,hS⟩,hg,hb⟩
  have ht2:=tot_lines t
  have hll:=tot_len (linesL [] t)
  have HC:Hid (∀ w1 v,LinesV v (linesL [] t) w1→(∀ g,v.ownBlock=some g→W1.heap.size≤g)→Below W1.heap.size W1 w1→Calls Tryz.prog 83 #[.agg #[.func (.func q.kd) #[] #[.pointer (some ⟨q.bd,0,none⟩)],.func (.func q.kl) #[] #[.pointer (some ⟨q.bl,0,none⟩)]],.agg #[v,.int .i64 0,.int .i64 0]] w1 fun e w'=>e=.returned (.tuple #[])∧(∃ S n,SpOk 0 n S (blocksAt 3 (linesL [] t))∧q.Told S w')∧Kt q none W.heap.size W w'∧w'.heap[W.heap.size]?=w1.heap[W.heap.size]?):=by
    intro w1 v hL hg hb
    have hbW:=hb1.trans (hb.mono (by omega))
    have hTw:=hq.below hT hbW
    refine (each_doc q hq [] v (linesL [] t) 0 w1 hTw hL (fun g hv=>hq.new hT hbW (by have:=hg g hv;omega)) (by omega) (by omega) (by simp;omega)).mono ?_
    rintro e w' ⟨rfl,⟨S,s1,s2⟩,K⟩
    exact ⟨rfl,⟨S,_,s1,s2⟩,(hq.kt hT hbW).trans (K.mono hbW.size),K.block _ (by have:=hb.size;omega) (by simp) (hq.new hT hbW (Nat.le_refl _))⟩
  have HK:Hid (∀ w':World,w'.heap[W.heap.size]?=W1.heap[W.heap.size]?→w'.cell? ⟨W.heap.size,0,none⟩=some (.func (.func q.kd) #[] #[.pointer (some ⟨q.bd,0,none⟩)])∧w'.cell? ⟨W.heap.size,1,none⟩=some (.func (.func q.kl) #[] #[.pointer (some ⟨q.bl,0,none⟩)])):=fun w' h=>cells2 (h.trans x1)
  obtain ⟨k1,k2⟩:=cells2 x1
  generalize blocksAt 3 (linesL [] t)=bs at HC ⊢
  have z3:W.heap.size < W1.heap.size:=by omega
  clear hT e1 ht2 hll hq x1 hb1 z1 c1
  go_enter Tryz.func60,Tryz.ntmps60
  go_wp2
  go_region_held3 (fun w'=>w'.cell? ⟨W.heap.size,0,none⟩=some (.func (.func q.kd) #[] #[.pointer (some ⟨q.bd,0,none⟩)])∧w'.cell? ⟨W.heap.size,1,none⟩=some (.func (.func q.kl) #[] #[.pointer (some ⟨q.bl,0,none⟩)])) (first | exact HK.out _ (E2.trans (B1.block _ z3)) | exact HK.out _ (B1.block _ z3) | exact HK.out _ (hB0.block _ z3)) (first | (go_at_call 84;refine c2.mono ?_;rintro e w1 ⟨p,ln,cp,rfl,hL,hg,b1⟩;have B1:Below W1.heap.size W1 w1:=hB0.trans b1) | (go_at_call 83;refine (HC.out w1 _ hL hg B1).mono ?_;rintro e w2 ⟨rfl,T2,K2,E2⟩))
  go_wp2
  go_end0
  exact ⟨rfl,T2,K2⟩
end Go.Proofs.YtljcljipppjnoaaGreatDoor
namespace Go.Proofs.YtljcljipppjnoaaGreatDoor
open Go.RowKit Go.Shelf
def stpCells:Stp→List Value
  | .ev e=>[.int .i64 e.kind,.bool e.fin,.int .i64 e.level,.string ⟨e.text.toArray⟩,.int .i64 0,.int .i64 0]
  | .leaf t x y=>[.int .i64 8,.bool false,.int .i64 0,.string ⟨t.toArray⟩,.int .i64 x,.int .i64 y]
def stpCs (S:List Stp):List Value:=S.flatMap stpCells
theorem stp_len (s:Stp):(stpCells s).length=6:=by cases s <;> rfl
theorem stpCs_app (a b:List Stp):stpCs (a++b)=stpCs a++stpCs b:=by simp [stpCs]
theorem stpCs_one (s:Stp):stpCs [s]=stpCells s:=by simp [stpCs]
theorem stp_one (s:Stp):∀ u ∈ stpCells s,u.oneCell'=true:=by
  intro u hu
  cases s <;> (simp [stpCells] at hu;rcases hu with rfl | rfl | rfl | rfl | rfl | rfl <;> rfl)
theorem stp_cell (w:World) (s:Stp) {n:Nat} (hn:n=w.heap.size):∀ j u,(stpCells s)[j]?=some u→(w.alloc (.cells (stpCells s).toArray 166)).cell? ((⟨n,0,none⟩:Addr).add j)=some u:=by
  subst hn
  intro j u hj
  rw [Addr.add_lit,Nat.zero_add]
  have h:=heap_alloc_new w (.cells (stpCells s).toArray 166)
  simp only [World.cell?,h]
  simpa using hj
theorem Tryz.infoStep:(Tryz.prog.info? 166).map (fun i=>(i.zero,i.size,i.bytes))=some (some (.agg #[.int .i64 0,.bool false,.int .i64 0,.string ⟨#[]⟩,.int .i64 0,.int .i64 0]),6,56):=by kernel_rfl
def PTold (be bm:Nat) (S:List Stp) (W:World):Prop :=
  (∃ v,W.heap[be]?=some (.cells #[v,.int .i64 0,.map (some bm)] 130 (0,0))∧W.ownsRow (be+1) 166 6 v S.length (stpCs S))∧W.heap[bm]?=some (.map #[] 0)
def POwn (be bm:Nat) (W:World) (b:Nat):Prop:=b=be∨b=bm∨∃ v c d,W.heap[be]?=some (.cells #[v,c,d] 130 (0,0))∧v.ownBlock=some b
theorem three_inj {v u c d c' d':Value} {t:TypeId} (h:some (Obj.cells #[v,c,d] t (0,0))=some (Obj.cells #[u,c',d'] t (0,0))):v=u:=by
  injection h with h
  injection h with h _
  have:=congrArg (fun a=>a[0]?) h
  simpa using this
def telP (be bm:Nat):Tel where
  kd:=110
  kl:=111
  bd:=be
  bl:=be
  Own:=POwn be bm
  Told:=PTold be bm
set_option maxRecDepth 100000 in
set_option maxHeartbeats 2000000 in
theorem pdo_any (be bm:Nat) (acc:List Stp) (ev:Ev) (W:World) (hT:PTold be bm acc W) (hlen:acc.length≤1099511627776) :
    Calls Tryz.prog 110 #[evV ev,.pointer (some ⟨be,0,none⟩)] W fun e w'=>e=.returned (.tuple #[])∧PTold be bm (acc++[.ev ev]) w'∧Kt (telP be bm) none W.heap.size W w':=by
  obtain ⟨j0,hj,hy0,hy1,hy2⟩:=info_parts Tryz.infoStep
  obtain ⟨⟨v,hv,hown⟩,hm⟩:=hT
  have hlt:=lt_of_block hv
  obtain ⟨hcell,_,_⟩:=cells3 hv
  have hfree:=row_free (i:=0) hv
  have hne:some be ≠ v.ownBlock:=by
    intro h
    have:=(hown.lt be h.symm).1
    omega
  have hmlt:bm < W.heap.size:=by
    rcases Nat.lt_or_ge bm W.heap.size with h | h
    · exact h
    · rw [Array.getElem?_eq_none h] at hm;cases hm
  have hnm:some bm ≠ v.ownBlock:=by
    intro h
    rcases hown.2 with ⟨h0,_⟩ | ⟨g,cap,cur,hvv,_,hh,_⟩
    · rw [h0] at h;cases h
    · rw [hvv] at h
      injection h with h
      have h2:bm=g:=h
      rw [← h2,hm] at hh
      cases hh
  have hmb:bm ≠ be:=fun h=>by rw [h,hv] at hm;cases hm
  unfold evV
  go_enter Tryz.func110,Tryz.ntmps110
  go_wp2_with (at_builtin;refine wpList_append_at _ rfl _ _ 127 rfl (be+1) 166 j0 (.agg #[.int .i64 0,.bool false,.int .i64 0,.string ⟨#[]⟩,.int .i64 0,.int .i64 0]) 6 56 Tryz.underlying127 hj hy0 hy1 hy2 rfl (by decide) _ _ _ rfl ((hown.alloc _).alloc _) ⟨W.heap.size+1,0,none⟩ 1 1 (by decide) (stpCells (.ev ev)) rfl rfl ?c1 (stp_one _) ?c3 ?c4 ?c5 ?_)
  case c1=>exact stp_cell _ (.ev ev) (by simp)
  case c3=>unfold maxLen;omega
  case c4=>omega
  case c5=>simp;omega
  intro v' w1 own' grow' at'
  rcases Joins.ownsRow_forms own' with ⟨rfl,h0⟩ | ⟨g',cap',rfl⟩
  · omega
  have hv1:w1.heap[be]?=some (.cells #[v,.int .i64 0,.map (some bm)] 130 (0,0)):=by
    rw [grow'.block be (by simp;omega) hne,Below.heap_alloc _ _ _ (by simp;omega),Below.heap_alloc _ _ _ hlt]
    exact hv
  have hm1:w1.heap[bm]?=some (.map #[] 0):=by
    rw [grow'.block bm (by simp;omega) hnm,Below.heap_alloc _ _ _ (by simp;omega),Below.heap_alloc _ _ _ hmlt]
    exact hm
  obtain ⟨hc1,_,_⟩:=cells3 hv1
  have hf1:=row_free (i:=0) hv1
  have HV:Hid _:=hv1
  have HM:Hid _:=hm1
  clear hm1 hm
  go_wp2
  go_end0
  have hs1:∀ x,(w1.setCell ⟨be,0,none⟩ x).heap[be]?=some (.cells #[x,.int .i64 0,.map (some bm)] 130 (0,0)):=fun x=>set_row HV.out
  refine ⟨rfl,⟨⟨_,hs1 _,?_⟩,?_⟩,?_⟩
  · rw [List.length_append,stpCs_app,stpCs_one]
    exact ownsRow_setCell_below own' (Nat.lt_succ_self _) _
  · rw [Below.heap_setCell _ _ _ _ hmb]
    exact HM.out
  · have g0:=grow'.size
    simp at g0
    refine ⟨grow'.os,grow'.tape,grow'.output,by simp;omega,?_,?_⟩
    · intro b hb _ ho
      have h0:b ≠ be:=fun h=>ho (Or.inl h)
      rw [Below.heap_setCell _ _ _ _ h0,grow'.block b (by simp;omega) (fun h=>ho (Or.inr (Or.inr ⟨v,_,_,hv,h.symm⟩))),Below.heap_alloc _ _ _ (by simp;omega),Below.heap_alloc _ _ _ hb]
    · intro b hb ho
      rcases ho with h | h | ⟨u,c,d,hu,hub⟩
      · exact Or.inl h
      · exact Or.inr (Or.inl h)
      · rw [hs1] at hu
        rw [← three_inj hu] at hub
        rcases at' with h | h
        · exact Or.inr (Or.inr ⟨v,_,_,hv,by rw [← h];exact hub⟩)
        · rw [h] at hub
          injection hub with hub
          omega
set_option maxRecDepth 100000 in
set_option maxHeartbeats 2000000 in
theorem plf_any (be bm:Nat) (acc:List Stp) (t:List UInt8) (x y:Nat) (W:World) (hT:PTold be bm acc W) (hlen:acc.length≤1099511627776) :
    Calls Tryz.prog 111 #[.string ⟨t.toArray⟩,.agg #[.int .i64 x,.int .i64 y],.pointer (some ⟨be,0,none⟩)] W fun e w'=>e=.returned (.tuple #[])∧PTold be bm (acc++[.leaf t x y]) w'∧Kt (telP be bm) none W.heap.size W w':=by
  obtain ⟨j0,hj,hy0,hy1,hy2⟩:=info_parts Tryz.infoStep
  obtain ⟨⟨v,hv,hown⟩,hm⟩:=hT
  have hlt:=lt_of_block hv
  obtain ⟨hcell,_,_⟩:=cells3 hv
  have hfree:=row_free (i:=0) hv
  have hne:some be ≠ v.ownBlock:=by
    intro h
    have:=(hown.lt be h.symm).1
    omega
  have hmlt:bm < W.heap.size:=by
    rcases Nat.lt_or_ge bm W.heap.size with h | h
    · exact h
    · rw [Array.getElem?_eq_none h] at hm;cases hm
  have hnm:some bm ≠ v.ownBlock:=by
    intro h
    rcases hown.2 with ⟨h0,_⟩ | ⟨g,cap,cur,hvv,_,hh,_⟩
    · rw [h0] at h;cases h
    · rw [hvv] at h
      injection h with h
      have h2:bm=g:=h
      rw [← h2,hm] at hh
      cases hh
  have hmb:bm ≠ be:=fun h=>by rw [h,hv] at hm;cases hm
  skip
  go_enter Tryz.func111,Tryz.ntmps111
  go_wp2_with (at_builtin;refine wpList_append_at _ rfl _ _ 127 rfl (be+1) 166 j0 (.agg #[.int .i64 0,.bool false,.int .i64 0,.string ⟨#[]⟩,.int .i64 0,.int .i64 0]) 6 56 Tryz.underlying127 hj hy0 hy1 hy2 rfl (by decide) _ _ _ rfl ((hown.alloc _).alloc _) ⟨W.heap.size+1,0,none⟩ 1 1 (by decide) (stpCells (.leaf t x y)) rfl rfl ?c1 (stp_one _) ?c3 ?c4 ?c5 ?_)
  case c1=>exact stp_cell _ (.leaf t x y) (by simp)
  case c3=>unfold maxLen;omega
  case c4=>omega
  case c5=>simp;omega
  intro v' w1 own' grow' at'
  rcases Joins.ownsRow_forms own' with ⟨rfl,h0⟩ | ⟨g',cap',rfl⟩
  · omega
  have hv1:w1.heap[be]?=some (.cells #[v,.int .i64 0,.map (some bm)] 130 (0,0)):=by
    rw [grow'.block be (by simp;omega) hne,Below.heap_alloc _ _ _ (by simp;omega),Below.heap_alloc _ _ _ hlt]
    exact hv
  have hm1:w1.heap[bm]?=some (.map #[] 0):=by
    rw [grow'.block bm (by simp;omega) hnm,Below.heap_alloc _ _ _ (by simp;omega),Below.heap_alloc _ _ _ hmlt]
    exact hm
  obtain ⟨hc1,_,_⟩:=cells3 hv1
  have hf1:=row_free (i:=0) hv1
  have HV:Hid _:=hv1
  have HM:Hid _:=hm1
  clear hm1 hm
  go_wp2
  go_end0
  have hs1:∀ x,(w1.setCell ⟨be,0,none⟩ x).heap[be]?=some (.cells #[x,.int .i64 0,.map (some bm)] 130 (0,0)):=fun x=>set_row HV.out
  refine ⟨rfl,⟨⟨_,hs1 _,?_⟩,?_⟩,?_⟩
  · rw [List.length_append,stpCs_app,stpCs_one]
    exact ownsRow_setCell_below own' (Nat.lt_succ_self _) _
  · rw [Below.heap_setCell _ _ _ _ hmb]
    exact HM.out
  · have g0:=grow'.size
    simp at g0
    refine ⟨grow'.os,grow'.tape,grow'.output,by simp;omega,?_,?_⟩
    · intro b hb _ ho
      have h0:b ≠ be:=fun h=>ho (Or.inl h)
      rw [Below.heap_setCell _ _ _ _ h0,grow'.block b (by simp;omega) (fun h=>ho (Or.inr (Or.inr ⟨v,_,_,hv,h.symm⟩))),Below.heap_alloc _ _ _ (by simp;omega),Below.heap_alloc _ _ _ hb]
    · intro b hb ho
      rcases ho with h | h | ⟨u,c,d,hu,hub⟩
      · exact Or.inl h
      · exact Or.inr (Or.inl h)
      · rw [hs1] at hu
        rw [← three_inj hu] at hub
        rcases at' with h | h
        · exact Or.inr (Or.inr ⟨v,_,_,hv,by rw [← h];exact hub⟩)
        · rw [h] at hub
          injection hub with hub
          omega
theorem telP_ok (be bm:Nat):(telP be bm).Ok where
  ed:=enters_of Tryz.func110 (by kernel_rfl) rfl
  el:=enters_of Tryz.func111 (by kernel_rfl) rfl
  lt:=fun acc W hT b hb=>by
    obtain ⟨⟨v,hv,hown⟩,hm⟩:=hT
    rcases hb with rfl | rfl | ⟨u,c,d,hu,hub⟩
    · exact lt_of_block hv
    · rcases Nat.lt_or_ge b W.heap.size with h | h
      · exact h
      · rw [Array.getElem?_eq_none h] at hm;cases hm
    · rw [hv] at hu
      rw [← three_inj hu] at hub
      exact (hown.lt b hub).2
  keep:=fun acc W w' hT hk=>by
    obtain ⟨⟨v,hv,hown⟩,hm⟩:=hT
    have h0:w'.heap[be]?=W.heap[be]?:=hk be (Or.inl rfl)
    refine ⟨⟨⟨v,h0.trans hv,hown.1,?_⟩,(hk bm (Or.inr (Or.inl rfl))).trans hm⟩,fun b ho=>?_⟩
    · rcases hown.2 with h | ⟨g,cap,cur,hvv,hg,hh,r⟩
      · exact Or.inl h
      · exact Or.inr ⟨g,cap,cur,hvv,hg,(hk g (Or.inr (Or.inr ⟨v,_,_,hv,by rw [hvv];rfl⟩))).trans hh,r⟩
    · rcases ho with h | h | ⟨u,c,d,hu,hub⟩
      · exact Or.inl h
      · exact Or.inr (Or.inl h)
      · exact Or.inr (Or.inr ⟨u,c,d,by rw [← h0];exact hu,hub⟩)
  typ:=fun acc W hT b hb=>by
    obtain ⟨⟨v,hv,hown⟩,hm⟩:=hT
    rcases hb with rfl | rfl | ⟨u,c,d,hu,hub⟩
    · exact ⟨_,hv,fun c T fz h=>by injection h with _ h _;subst h;exact ⟨by decide,by decide⟩⟩
    · exact ⟨_,hm,fun c T fz h=>by cases h⟩
    · rw [hv] at hu
      rw [← three_inj hu] at hub
      rcases hown.2 with ⟨h0,_⟩ | ⟨g,cap,cur,hvv,_,hh,_⟩
      · rw [h0] at hub;cases hub
      · rw [hvv] at hub
        injection hub with hub
        have hub:g=b:=hub
        subst hub
        exact ⟨_,hh,fun c T fz h=>by injection h with _ h _;subst h;exact ⟨by decide,by decide⟩⟩
  doc:=fun acc ev W hT hlen=>pdo_any be bm acc ev W hT hlen
  lfc:=fun acc t x y W hT _ hlen=>plf_any be bm acc t x y W hT hlen
end Go.Proofs.YtljcljipppjnoaaGreatDoor
namespace Go.Proofs.YtljcljipppjnoaaGreatDoor
open Go.RowKit Go.Shelf
def spK (x y:Nat):Value:=.agg #[.int .i64 x,.int .i64 y]
theorem spK_inj {x y x' y':Nat} (h:spK x y=spK x' y'):x=x'∧y=y':=by
  unfold spK at h
  injection h with h
  simp at h
  omega
theorem Tryz.structSpan:Tryz.prog.underlying 119=some (.struct (Tryz.prog.fieldsOf 119)):=by kernel_rfl
theorem Tryz.stoodSpan:Tryz.prog.stoodInHeld 119=false:=by kernel_rfl
theorem Tryz.fieldsSpan : ∃ f1 f2, (Tryz.prog.fieldsOf 119).toList = [f1, f2] ∧ (f1.name = "From" ∧ f1.type = 3 ∧ f1.offset = 0) ∧ f2.name = "To" ∧ f2.type = 3 ∧ f2.offset = 1 := by
  have hf : (Tryz.prog.fieldsOf 119).toList.map (fun f => (f.name, f.type, f.offset)) = [("From", 3, 0), ("To", 3, 1)] := by kernel_rfl
  cases h:(Tryz.prog.fieldsOf 119).toList with
  | nil=>rw [h] at hf;cases hf
  | cons f1 r =>
    cases r with
    | nil=>rw [h] at hf;simp at hf
    | cons f2 r =>
      cases r with
      | nil =>
        rw [h] at hf
        simp at hf
        exact ⟨f1,f2,rfl,hf.1,hf.2⟩
      | cons f3 r=>rw [h] at hf;simp at hf
theorem span_equal (x y x' y':Nat) (w:World):(Op.equal 119 (spK x y) (spK x' y')).run Tryz.prog w=.ok (decide (x=x'∧y=y')) w:=by
  unfold Op.equal Op.maxDepth spK
  rw [run_equalIn_struct w 9999 _ _ _ Tryz.structSpan Tryz.stoodSpan]
  obtain ⟨f1,f2,hl,⟨a1,a2,a3⟩,b1,b2,b3⟩:=Tryz.fieldsSpan
  rw [hl]
  simp only [Op.eqFields,a1,a2,a3,b1,b2,b3]
  simp [go_sem,Tryz.isAgg3,Tryz.underlying3,Tryz.sizeOf3]
  by_cases h1:x=x'
  · by_cases h2:y=y'
    · simp [h1,h2]
    · have:¬ ((y:Int)=(y':Int)):=by omega
      simp [h1,h2,this]
  · have:¬ ((x:Int)=(x':Int)):=by omega
    simp [h1,this]
theorem span_check (em:Bool) (x y:Nat) (w:World):(Instr.checkKey em 10000 119 (spK x y)).run Tryz.prog w=.ok () w:=by
  obtain ⟨f1,f2,hl,⟨a1,a2,a3⟩,b1,b2,b3⟩:=Tryz.fieldsSpan
  unfold spK
  have hi:∀ (n:Nat) (v:Int) w,(Instr.checkKey em (n+1) 3 (.int .i64 v)).run Tryz.prog w=.ok () w:=by
    intro n v w
    rw [Instr.checkKey]
    simp only [Sem.run_bind,run_underlying Tryz.underlying3,Result.andThen_ok,Sem.run_pure]
  obtain ⟨n,hn⟩:∃ n,(9999:Nat)=n+1:=⟨9998,rfl⟩
  rw [show (10000:Nat)=9999+1 from rfl,Instr.checkKey,hn]
  simp only [Sem.run_bind,run_underlying Tryz.structSpan,Result.andThen_ok]
  rw [← Array.forIn_toList,hl]
  simp [a1,a2,a3,b1,b2,b3,go_sem,Tryz.isAgg3,Tryz.sizeOf3,hi]
def Spans (es:List MapEntry):Prop:=∀ e ∈ es,∃ x y:Nat,e.key=spK x y
theorem span_asking (x y:Nat) (es:List MapEntry) (hs:Spans es) (i:Nat):((∀ w,(Instr.findAsking 119 (spK x y) es i).run Tryz.prog w=.ok none w)∧∀ e ∈ es,e.key ≠ spK x y)∨∃ j e,(∀ w,(Instr.findAsking 119 (spK x y) es i).run Tryz.prog w=.ok (some (j,e.val)) w)∧e ∈ es∧e.key=spK x y:=by
  induction es generalizing i with
  | nil=>exact Or.inl ⟨fun _=>rfl,fun e he=>by cases he⟩
  | cons e es ih =>
    obtain ⟨x',y',hk⟩:=hs e (by simp)
    have he:=span_equal x y x' y'
    by_cases h:x=x'∧y=y'
    · refine Or.inr ⟨i,e,fun w=>?_,by simp,by rw [hk,h.1,h.2]⟩
      simp only [Instr.findAsking,hk,Sem.run_bind,he,decide_eq_true h,Result.andThen_ok,if_true,Sem.run_pure]
    · have hr:∀ w,(Instr.findAsking 119 (spK x y) (e :: es) i).run Tryz.prog w=(Instr.findAsking 119 (spK x y) es (i+1)).run Tryz.prog w:=fun w=>by
        simp only [Instr.findAsking,hk,Sem.run_bind,he,decide_eq_false h,Result.andThen_ok,Bool.false_eq_true,if_false]
      rcases ih (fun e he=>hs e (by simp [he])) (i+1) with ⟨h1,h2⟩ | ⟨j,e',h1,h2,h3⟩
      · refine Or.inl ⟨fun w=>(hr w).trans (h1 w),fun e' he'=>?_⟩
        rcases List.mem_cons.1 he' with rfl | he'
        · rw [hk]
          intro hc
          obtain ⟨q1,q2⟩:=spK_inj hc
          exact h ⟨q1.symm,q2.symm⟩
        · exact h2 e' he'
      · exact Or.inr ⟨j,e',fun w=>(hr w).trans (h1 w),by simp [h2],h3⟩
theorem span_find (x y:Nat) (es:List MapEntry) (hs:Spans es):((∀ w,(Instr.findKey 119 (spK x y) es).run Tryz.prog w=.ok none w)∧∀ e ∈ es,e.key ≠ spK x y)∨∃ j e,(∀ w,(Instr.findKey 119 (spK x y) es).run Tryz.prog w=.ok (some (j,e.val)) w)∧e ∈ es∧e.key=spK x y:=by
  cases es with
  | nil=>exact Or.inl ⟨fun w=>by simp [Instr.findKey,run_underlying Tryz.structSpan,Instr.findNow],fun e he=>by cases he⟩
  | cons e es =>
    have hr:∀ w,(Instr.findKey 119 (spK x y) (e :: es)).run Tryz.prog w=(Instr.findAsking 119 (spK x y) (e :: es)).run Tryz.prog w:=fun w=>by
      simp [Instr.findKey,run_underlying Tryz.structSpan,Instr.findNow,Instr.sameNow]
    rcases span_asking x y (e :: es) hs 0 with ⟨h1,h2⟩ | ⟨j,e',h1,h2⟩
    · exact Or.inl ⟨fun w=>(hr w).trans (h1 w),h2⟩
    · exact Or.inr ⟨j,e',fun w=>(hr w).trans (h1 w),h2⟩
theorem map_look (b:Nat) (es:Array MapEntry) (clock:Nat) (x y:Nat) (hs:Spans es.toList) :
    ((∀ w:World,w.heap[b]?=some (.map es clock)→(Instr.lookup 128 (.map (some b)) (.agg #[.int .i64 x,.int .i64 y]) true).run Tryz.prog w=.ok (.tuple #[.slice none 0 0,.bool false]) w)∧∀ e ∈ es.toList,e.key ≠ spK x y)∨∃ e,(∀ w:World,w.heap[b]?=some (.map es clock)→(Instr.lookup 128 (.map (some b)) (.agg #[.int .i64 x,.int .i64 y]) true).run Tryz.prog w=.ok (.tuple #[e.val,.bool true]) w)∧e ∈ es.toList∧e.key=spK x y:=by
  have hk:=fun em w=>span_check em x y w
  have hz:∀ w,(zeroValue 75).run Tryz.prog w=.ok (.slice none 0 0) w:=fun w=>by simp [go_sem,Tryz.zeroValue75]
  rcases span_find x y es.toList hs with ⟨h1,h2⟩ | ⟨j,e,h1,h2,h3⟩
  · refine Or.inl ⟨fun w hb=>?_,h2⟩
    unfold spK at h1 hk
    simp [Instr.lookup,run_underlying Tryz.underlying128,Go.MapKept.run_getObj_map hb,hk,h1,hz]
  · refine Or.inr ⟨e,fun w hb=>?_,h2,h3⟩
    unfold spK at h1 hk
    simp [Instr.lookup,run_underlying Tryz.underlying128,Go.MapKept.run_getObj_map hb,hk,h1]
def mapAdd (w:World) (b:Nat) (es:Array MapEntry) (clock x y:Nat) (v:Value):World:={ w with heap:=w.heap.setIfInBounds b (.map (es.push { key:=.agg #[.int .i64 x,.int .i64 y],val:=v,born:=clock }) (clock+1)) }
theorem map_put (b:Nat) (es:Array MapEntry) (clock:Nat) (x y:Nat) (v:Value) (w:World) (hb:w.heap[b]?=some (.map es clock)) (hs:Spans es.toList) (hn:∀ e ∈ es.toList,e.key ≠ spK x y) :
    (Instr.mapUpdate 128 (.map (some b)) (.agg #[.int .i64 x,.int .i64 y]) v).run Tryz.prog w=.ok () (mapAdd w b es clock x y v):=by
  have hk:=fun em=>span_check em x y w
  rcases span_find x y es.toList hs with ⟨h1,h2⟩ | ⟨j,e,h1,h2,h3⟩
  · unfold spK at h1 hk
    simp [Instr.mapUpdate,run_underlying Tryz.underlying128,Go.MapKept.run_getObj_map hb,hk,h1,Go.MapKept.run_setObj_map _ hb,mapAdd]
  · exact absurd h3 (hn e h2)
theorem map_added (b:Nat) (es:Array MapEntry) (clock x y:Nat) (v:Value) (w:World) (hb:w.heap[b]?=some (.map es clock)) :
    (mapAdd w b es clock x y v).heap[b]?=some (.map (es.push { key:=.agg #[.int .i64 x,.int .i64 y],val:=v,born:=clock }) (clock+1))∧(∀ c,c ≠ b→(mapAdd w b es clock x y v).heap[c]?=w.heap[c]?)∧(mapAdd w b es clock x y v).heap.size=w.heap.size∧(mapAdd w b es clock x y v).os=w.os∧(mapAdd w b es clock x y v).tape=w.tape∧(mapAdd w b es clock x y v).output=w.output:=by
  have hlt:b < w.heap.size:=(Array.getElem?_eq_some_iff.1 hb).1
  refine ⟨?_,?_,by simp [mapAdd],rfl,rfl,rfl⟩
  · show (w.heap.setIfInBounds b _)[b]?=_
    rw [Array.getElem?_setIfInBounds_self_of_lt hlt]
  · intro c hc
    show (w.heap.setIfInBounds b _)[c]?=_
    rw [Array.getElem?_setIfInBounds_ne (fun h=>hc h.symm)]
end Go.Proofs.YtljcljipppjnoaaGreatDoor
namespace Go.Proofs.YtljcljipppjnoaaGreatDoor
open Go.RowKit Go.Shelf
theorem lay3' (W:World) (x y z:Obj):(((W.alloc x).alloc y).alloc z).heap[W.heap.size]?=some x∧(((W.alloc x).alloc y).alloc z).heap[W.heap.size+1]?=some y∧(((W.alloc x).alloc y).alloc z).heap[W.heap.size+1+1]?=some z∧Below W.heap.size W (((W.alloc x).alloc y).alloc z):=by
  have e1:(W.alloc x).heap.size=W.heap.size+1:=by simp
  have e2:((W.alloc x).alloc y).heap.size=W.heap.size+1+1:=by simp
  refine ⟨?_,?_,?_,?_⟩
  · exact heap_al _ _ (by omega) (heap_al _ _ (by omega) (heap_alloc_new W x))
  · refine heap_al _ _ (by omega) ?_
    have:=heap_alloc_new (W.alloc x) y
    rw [e1] at this
    exact this
  · have:=heap_alloc_new ((W.alloc x).alloc y) z
    rw [e2] at this
    exact this
  · exact (((Below.refl _ W).alloc (Nat.le_refl _) _).alloc (by omega) _).alloc (by omega) _
set_option maxRecDepth 100000 in
set_option maxHeartbeats 2000000 in
theorem pOf_any (t:List UInt8) (m:Int) (W:World) (ht:t.length≤16777216) (hm:W.cell? ⟨6,0,none⟩=some (.int .i64 m)) :
    Calls Tryz.prog 85 #[.string ⟨t.toArray⟩] W fun e w'=>∃ v bm S n,e=.returned (.agg #[v,.int .i64 0,.map (some bm)])∧SpOk 0 n S (blocksAt 3 (linesL [] t))∧w'.ownsRow W.heap.size 166 6 v S.length (stpCs S)∧w'.heap[bm]?=some (.map #[] 0)∧W.heap.size≤bm∧Below W.heap.size W w':=by
  have hmf:∀ (fn:Fn) (first cap:Array Value) (w:World),(Instr.makeFunc fn first cap).run Tryz.prog w=.ok (.func fn first cap) w:=fun _ _ _ _=>rfl
  have hmk:∀ w:World,(Instr.makeMap 128 none).run Tryz.prog w=.ok (.map (some w.heap.size)) (w.alloc (.map #[] 0)):=fun w=>rfl
  have hml:6 < W.heap.size:=by
    rcases Nat.lt_or_ge 6 W.heap.size with h | h
    · exact h
    · simp [World.cell?,Array.getElem?_eq_none h] at hm
  obtain ⟨y0,y1,y2,b3⟩:=lay3' W (.cells #[.slice none 0 0,.int .i64 0,.map none] 130 (0,0)) (.map #[] 0) (.cells #[.slice none 0 0,.int .i64 0,.map (some (W.heap.size+1))] 130 (0,0))
  obtain ⟨W3,hW3⟩:∃ W3,((W.alloc (.cells #[.slice none 0 0,.int .i64 0,.map none] 130 (0,0))).alloc (.map #[] 0)).alloc (.cells #[.slice none 0 0,.int .i64 0,.map (some (W.heap.size+1))] 130 (0,0))=W3:=⟨_,rfl⟩
  have z3:W3.heap.size=W.heap.size+1+1+1:=by rw [← hW3];simp
  rw [hW3] at y0 y1 y2 b3
  have hT:(telP (W.heap.size+1+1) (W.heap.size+1)).Told [] W3:=⟨⟨_,y2,by simpa [stpCs] using World.ownsRow_nil W3 (W.heap.size+1+1+1) 166 6⟩,y1⟩
  have hc:=dEach_any (telP (W.heap.size+1+1) (W.heap.size+1)) (telP_ok _ _) t m W3 hT ht ((b3.cell (p:=⟨6,0,none⟩) hml).trans hm)
  have hno:∀ b,b≤W.heap.size→¬ POwn (W.heap.size+1+1) (W.heap.size+1) W3 b:=by
    intro b hb ho
    rcases ho with h | h | ⟨u,c,d,hu,hub⟩
    · omega
    · omega
    · rw [y2] at hu
      rw [← three_inj hu] at hub
      cases hub
  have hc2:Calls Tryz.prog 60 #[.string ⟨t.toArray⟩,.func (.func 110) #[] #[.pointer (some ⟨W.heap.size+1+1,0,none⟩)],.func (.func 111) #[] #[.pointer (some ⟨W.heap.size+1+1,0,none⟩)]] W3 fun e w'=>e=.returned (.tuple #[])∧∃ p ln cp,w'.heap[W.heap.size+1+1]?=some (.cells #[.slice p ln cp,.int .i64 0,.map (some (W.heap.size+1))] 130 (0,0))∧w'.heap[W.heap.size]?=some (.cells #[.slice none 0 0,.int .i64 0,.map none] 130 (0,0))∧Hid (∃ S n,SpOk 0 n S (blocksAt 3 (linesL [] t))∧w'.ownsRow (W.heap.size+1+1+1) 166 6 (.slice p ln cp) S.length (stpCs S)∧w'.heap[W.heap.size+1]?=some (.map #[] 0)∧Below W.heap.size W w'):=by
    refine hc.mono ?_
    rintro e w' ⟨rfl,⟨S,n,s1,⟨⟨v,hv,hown⟩,hmm⟩⟩,K⟩
    have hB:Below W.heap.size W w':=b3.trans ⟨K.os,K.tape,K.output,K.size,fun b hb=>K.block b (by omega) (by simp) (hno b (by omega))⟩
    have hr:=(K.block W.heap.size (by omega) (by simp) (hno _ (Nat.le_refl _))).trans y0
    rcases Joins.ownsRow_forms hown with ⟨rfl,h0⟩ | ⟨g',cap',rfl⟩
    · exact ⟨rfl,_,_,_,hv,hr,S,n,s1,hown,hmm,hB⟩
    · exact ⟨rfl,_,_,_,hv,hr,S,n,s1,hown,hmm,hB⟩
  generalize blocksAt 3 (linesL [] t)=bs at hc2 ⊢
  clear hc hT hm b3 y0 y1 y2 hno z3
  go_enter Tryz.func85,Tryz.ntmps85
  go_wp2_with (go_at_call 60;refine hc2.mono ?_;rintro e w1 ⟨rfl,p,ln,cp,hv,hr,HF⟩;obtain ⟨c1,c2,c3⟩:=cells3 hv;obtain ⟨d1,d2,d3⟩:=cells3 hr;have f1:=row_free (i:=0) hr;have f2:=row_free (i:=1) hr;have f3:=row_free (i:=2) hr)
  obtain ⟨v1,v2,v3,v4,v5,v6⟩:=three_set (x':=.slice p ln cp) (y':=.int .i64 0) (z':=.map (some (W.heap.size+1))) hr
  obtain ⟨S,n,s1,own,hmm,hB⟩:=HF.out
  obtain ⟨e1,e2,e3⟩:=cells3 v1
  refine bodyPost_ret (v:=.agg #[.slice p ln cp,.int .i64 0,.map (some (W.heap.size+1))]) (by simp [results,Tryz.results85,go_sem,e1,e2,e3]) rfl ?_
  refine ⟨_,_,S,n,rfl,s1,?_,(v2 _ (by omega)).trans hmm,by omega,?_⟩
  · exact Joins.ownsRow_le (ownsRow_setCell_below (ownsRow_setCell_below (ownsRow_setCell_below own (by show W.heap.size < _;omega) _) (by show W.heap.size < _;omega) _) (by show W.heap.size < _;omega) _) (by omega)
  · exact ((hB.setCell (p:=⟨W.heap.size,0,none⟩) (Nat.le_refl _) _).setCell (p:=⟨W.heap.size,1,none⟩) (Nat.le_refl _) _).setCell (p:=⟨W.heap.size,2,none⟩) (Nat.le_refl _) _
end Go.Proofs.YtljcljipppjnoaaGreatDoor
namespace Go.Proofs.YtljcljipppjnoaaGreatDoor
open Go.RowKit Go.Shelf
def inX (t:List UInt8):List Ev:=inlineS t false
def remS (S:List Stp) (k:Nat):List Ev:=(full inX S).drop k
theorem rem_nil (k:Nat):remS [] k=[]:=by simp [remS,full]
theorem rem_ev (e:Ev) (r:List Stp):remS (.ev e :: r) 0=e :: remS r 0:=by simp [remS,full,exOf]
theorem rem_at (t:List UInt8) (x y:Nat) (r:List Stp) (k:Nat) (h:k < (inX t).length):remS (.leaf t x y :: r) k=(inX t)[k] :: remS (.leaf t x y :: r) (k+1):=by
  have e:full inX (.leaf t x y :: r)=inX t++full inX r:=by simp [full,exOf]
  unfold remS
  rw [e,List.drop_eq_getElem_cons (by rw [List.length_append];omega),List.getElem_append_left h]
theorem rem_end (t:List UInt8) (x y:Nat) (r:List Stp) (k:Nat) (h:k=(inX t).length):remS (.leaf t x y :: r) k=remS r 0:=by
  have e:full inX (.leaf t x y :: r)=inX t++full inX r:=by simp [full,exOf]
  unfold remS
  rw [e,h,List.drop_left,List.drop_zero]
theorem leaf_in {a b:Nat} {S:List Stp} (h:SpIn a b S) {t:List UInt8} {x y:Nat} (hm:Stp.leaf t x y ∈ S):t ≠ []∧a≤x∧x < y:=by
  induction S generalizing a with
  | nil=>cases hm
  | cons s S ih =>
    cases s with
    | ev e =>
      rcases List.mem_cons.1 hm with h' | h'
      · cases h'
      · exact ih h h'
    | leaf t' x' y' =>
      obtain ⟨h0,h1,h2,h3⟩:=h
      rcases List.mem_cons.1 hm with h' | h'
      · cases h'
        exact ⟨h0,h1,h2⟩
      · have:=ih h3 h'
        exact ⟨this.1,by omega,this.2.2⟩
theorem leaf_one {a b:Nat} {S:List Stp} (h:SpIn a b S) {t t':List UInt8} {x y:Nat} (hm:Stp.leaf t x y ∈ S) (hm':Stp.leaf t' x y ∈ S):t=t':=by
  induction S generalizing a with
  | nil=>cases hm
  | cons s S ih =>
    cases s with
    | ev e =>
      rcases List.mem_cons.1 hm with h1 | h1
      · cases h1
      · rcases List.mem_cons.1 hm' with h2 | h2
        · cases h2
        · exact ih h h1 h2
    | leaf u x' y' =>
      obtain ⟨q0,q1,q2,q3⟩:=h
      rcases List.mem_cons.1 hm with h1 | h1
      · rcases List.mem_cons.1 hm' with h2 | h2
        · cases h1;cases h2;rfl
        · cases h1
          have:=leaf_in q3 h2
          omega
      · rcases List.mem_cons.1 hm' with h2 | h2
        · cases h2
          have:=leaf_in q3 h1
          omega
        · exact ih q3 h1 h2
def EvRow (v:Value) (l:List Ev) (W:World):Prop:=W.ownsRow 0 92 4 v l.length (evCs l)
def StpV (v:Value) (S:List Stp) (W:World):Prop :=
  (S=[]∧v=.slice none 0 0)∨∃ g o cap cur,v=.slice (some ⟨g,o,none⟩) S.length cap∧S.length≤cap∧cap≤9223372036854775807∧W.heap[g]?=some (.cells cur 166 (0,0))∧∀ i s,S[i]?=some s→∀ j u,(stpCells s)[j]?=some u→cur[o+i * 6+j]?=some u
def MapOk (es:Array MapEntry) (S0:List Stp) (W:World):Prop:=∀ e ∈ es.toList,∃ t x y,e.key=spK x y∧Stp.leaf t x y ∈ S0∧EvRow e.val (inX t) W
theorem MapOk.spans {es:Array MapEntry} {S0:List Stp} {W:World} (h:MapOk es S0 W):Spans es.toList:=fun e he=>by
  obtain ⟨t,x,y,hk,_⟩:=h e he
  exact ⟨x,y,hk⟩
theorem EvRow.keep {v:Value} {l:List Ev} {W w':World} (h:EvRow v l W) (hk:∀ g,v.ownBlock=some g→w'.heap[g]?=W.heap[g]?):EvRow v l w':=by
  refine ⟨h.1,?_⟩
  rcases h.2 with h0 | ⟨g,cap,cur,hv,hg,hh,r⟩
  · exact Or.inl h0
  · exact Or.inr ⟨g,cap,cur,hv,hg,(hk g (by rw [hv];rfl)).trans hh,r⟩
theorem EvRow.lt {v:Value} {l:List Ev} {W:World} (h:EvRow v l W) {g:Nat} (hg:v.ownBlock=some g):g < W.heap.size:=(World.ownsRow.lt (show W.ownsRow 0 92 4 v l.length (evCs l) from h) g hg).2
theorem EvRow.typ {v:Value} {l:List Ev} {W:World} (h:EvRow v l W) {g:Nat} (hg:v.ownBlock=some g):∃ cur,W.heap[g]?=some (.cells cur 92 (0,0)):=by
  rcases h.2 with ⟨h0,_⟩ | ⟨g',cap,cur,hv,_,hh,_⟩
  · rw [h0] at hg;cases hg
  · rw [hv] at hg
    injection hg with hg
    have hg:g'=g:=hg
    subst hg
    exact ⟨cur,hh⟩
theorem MapOk.keep {es:Array MapEntry} {S0:List Stp} {W w':World} (h:MapOk es S0 W) (hk:∀ e ∈ es.toList,∀ g,e.val.ownBlock=some g→w'.heap[g]?=W.heap[g]?):MapOk es S0 w':=fun e he=>by
  obtain ⟨t,x,y,h1,h2,h3⟩:=h e he
  exact ⟨t,x,y,h1,h2,h3.keep (hk e he)⟩
theorem StpV.keep {v:Value} {S:List Stp} {W w':World} (h:StpV v S W) (hk:∀ g,v.ownBlock=some g→w'.heap[g]?=W.heap[g]?):StpV v S w':=by
  rcases h with h | ⟨g,o,cap,cur,hv,h1,h2,h3,h4⟩
  · exact Or.inl h
  · exact Or.inr ⟨g,o,cap,cur,hv,h1,h2,(hk g (by rw [hv];rfl)).trans h3,h4⟩
theorem StpV.typ {v:Value} {S:List Stp} {W:World} (h:StpV v S W) {g:Nat} (hg:v.ownBlock=some g):∃ cur,W.heap[g]?=some (.cells cur 166 (0,0)):=by
  rcases h with ⟨_,h0⟩ | ⟨g',o,cap,cur,hv,_,_,hh,_⟩
  · rw [h0] at hg;cases hg
  · rw [hv] at hg
    injection hg with hg
    have hg:g'=g:=hg
    subst hg
    exact ⟨cur,hh⟩
theorem StpV.of_own {B:Nat} {v:Value} {S:List Stp} {W:World} (h:W.ownsRow B 166 6 v S.length (stpCs S)):StpV v S W:=by
  rcases h.2 with ⟨hv,h0⟩ | ⟨g,cap,cur,hv,_,hg,hnc,hcm,hcs,ht⟩
  · exact Or.inl ⟨List.eq_nil_of_length_eq_zero h0,hv⟩
  · refine Or.inr ⟨g,0,cap,cur,hv,hnc,by simp only [maxLen] at hcm;omega,hg,fun i s hi j u hj=>?_⟩
    have hil:i < S.length:=(List.getElem?_eq_some_iff.1 hi).1
    have hjl:j < 6:=by have:=(List.getElem?_eq_some_iff.1 hj).1;rw [stp_len] at this;exact this
    have h1:(cur.toList.take (S.length * 6))[i * 6+j]?=(stpCs S)[i * 6+j]?:=by rw [ht]
    rw [List.getElem?_take_of_lt (by omega),Array.getElem?_toList] at h1
    rw [Nat.zero_add,h1]
    clear ht h1 hg hcs hnc hcm hv h
    induction S generalizing i with
    | nil=>cases hi
    | cons s' S ih =>
      have e0:stpCs (s' :: S)=stpCells s'++stpCs S:=by simp [stpCs]
      rw [e0]
      cases i with
      | zero =>
        simp at hi
        subst hi
        rw [Nat.zero_mul,Nat.zero_add,List.getElem?_append_left (by rw [stp_len];exact hjl)]
        exact hj
      | succ i =>
        simp only [List.getElem?_cons_succ] at hi
        rw [List.getElem?_append_right (by rw [stp_len];omega),stp_len,show (i+1) * 6+j - 6=i * 6+j by omega]
        exact ih i hi (by rw [List.length_cons] at hil;omega)
end Go.Proofs.YtljcljipppjnoaaGreatDoor
