import Derived.Test.YtljcljipppjnoaaGreatDoorJA01
import Derived.OneCell
import Derived.Deep.DeepCutAuto
namespace Go.Proofs.YtljcljipppjnoaaGreatDoor
open Go.RowKit
set_option maxRecDepth 100000 in
set_option maxHeartbeats 1000000 in
theorem pevent_any (k l:Int) (b:Bool) (t:ByteArray) (W:World) :
    Calls Tryz.prog 48 #[.agg #[.int .i64 k,.bool b,.int .i64 l,.string t]] W fun e w'=>e=.returned (.agg #[.int .i64 k,.bool b,.int .i64 l,.string t])∧Below W.heap.size W w':=by
  go_enter Tryz.func48,Tryz.ntmps48
  go_wp2
  exact bodyPost_ret (v:=.agg #[.int .i64 k,.bool b,.int .i64 l,.string t]) (by simp [results,Tryz.results48,go_sem]) rfl ⟨rfl,((Below.refl _ W).alloc (Nat.le_refl _) _).alloc (by simp) _⟩
theorem evCs_at (evs:List Ev) (k:Nat) (e:Ev) (h:evs[k]?=some e):(evCs evs)[k * 4]?=some (.int .i64 e.kind)∧(evCs evs)[k * 4+1]?=some (.bool e.fin)∧(evCs evs)[k * 4+2]?=some (.int .i64 e.level)∧(evCs evs)[k * 4+3]?=some (.string ⟨e.text.toArray⟩):=by
  induction evs generalizing k with
  | nil=>simp at h
  | cons x r ih =>
    have e0:evCs (x :: r)=evCells x++evCs r:=by simp [evCs]
    have el:(evCells x).length=4:=rfl
    rw [e0]
    cases k with
    | zero =>
      simp at h
      subst h
      exact ⟨rfl,rfl,rfl,rfl⟩
    | succ k =>
      simp only [List.getElem?_cons_succ] at h
      obtain ⟨h1,h2,h3,h4⟩:=ih k h
      refine ⟨?_,?_,?_,?_⟩
      · rw [List.getElem?_append_right (by omega),el,show (k+1) * 4 - 4=k * 4 by omega];exact h1
      · rw [List.getElem?_append_right (by omega),el,show (k+1) * 4+1 - 4=k * 4+1 by omega];exact h2
      · rw [List.getElem?_append_right (by omega),el,show (k+1) * 4+2 - 4=k * 4+2 by omega];exact h3
      · rw [List.getElem?_append_right (by omega),el,show (k+1) * 4+3 - 4=k * 4+3 by omega];exact h4
theorem evs_snoc (evs:List Ev) (k:Nat) (e:Ev) (h:evs[k]?=some e):evCs (evs.take (k+1))=evCs (evs.take k)++evCells e:=by
  have hk:k < evs.length:=(List.getElem?_eq_some_iff.1 h).1
  have he:evs[k]=e:=(List.getElem?_eq_some_iff.1 h).2
  rw [List.take_succ_eq_append_getElem hk,evCs_append,evCs_one,he]
theorem set_row {w:World} {g i:Nat} {cur:Array Value} {t:TypeId} {v:Value} (h:w.heap[g]?=some (.cells cur t (0,0))):(w.setCell ⟨g,i,none⟩ v).heap[g]?=some (.cells (cur.setIfInBounds i v) t (0,0)):=by
  have hlt:=lt_of_block h
  have h':w.heap[g]=.cells cur t (0,0):=by simpa [Array.getElem?_eq_getElem hlt] using h
  show (w.heap.modify g _)[g]?=_
  rw [Array.getElem?_eq_getElem (by simpa using hlt)]
  simp only [Array.getElem_modify,if_true]
  rw [h']
  rfl
theorem row_cell {w:World} {g i:Nat} {cur:Array Value} {t:TypeId} {v:Value} (h:w.heap[g]?=some (.cells cur t (0,0))) (hv:cur[i]?=some v):w.cell? ⟨g,i,none⟩=some v:=by
  simp [World.cell?,h,hv]
theorem row_free {w:World} {g i:Nat} {cur:Array Value} {t:TypeId} (h:w.heap[g]?=some (.cells cur t (0,0))):w.frozen? ⟨g,i,none⟩=false:=by
  simp [World.frozen?,h]
theorem Tryz.infoPlain:(Tryz.prog.info? 39).map (fun i=>(i.zero,i.size,i.bytes))=some (some (.agg #[.int .i64 0,.bool false,.int .i64 0,.string ⟨#[]⟩]),4,40):=by kernel_rfl
set_option maxRecDepth 100000 in
set_option maxHeartbeats 2000000 in
theorem pevents_any (B:Nat) (v:Value) (evs:List Ev) (W:World) (hB:B≤W.heap.size) (hown:W.ownsRow B 92 4 v evs.length (evCs evs)) (hlen:evs.length≤1099511627776) :
    Calls Tryz.prog 34 #[v] W fun e w'=>∃ v',e=.returned v'∧w'.ownsRow W.heap.size 39 4 v' evs.length (evCs evs)∧Below B W w':=by
  obtain ⟨j0,hj,hy0,hy1,hy2⟩:=info_parts Tryz.infoPlain
  obtain ⟨hl,hf⟩:=hown
  rcases hf with ⟨rfl,h0⟩ | ⟨g,cap,cur,rfl,hBg,hg,hnc,hcm,hcs,htk⟩
  · have:evs=[]:=List.eq_nil_of_length_eq_zero h0
    subst this
    go_enter Tryz.func34,Tryz.ntmps34
    go_wp2
    go_loopg [3,7] 1 (fun gk v3 v7 wr=>v3=.slice none 0 0∧v7=.int .i64 0∧wr=W)
    case atStart=>exact ⟨rfl,rfl,rfl⟩
    case round =>
      obtain ⟨rfl,rfl,rfl⟩:=hrel
      go_wp2
      go_ret
      exact ⟨_,rfl,by simpa [evCs] using World.ownsRow_nil _ _ _ _,Below.refl _ _⟩
  · have hcur:∀ j,j < evs.length * 4→cur[j]?=(evCs evs)[j]?:=by
      intro j hj
      have:=congrArg (fun l=>l[j]?) htk
      simp only [List.getElem?_take_of_lt hj,Array.getElem?_toList] at this
      exact this
    have hglt:=lt_of_block hg
    clear hl htk
    unfold maxLen at hcm
    go_enter Tryz.func34,Tryz.ntmps34
    go_wp2
    go_loopw [3,7] (fun v3 v7 wr=>∃ (k:Nat) (cur2:Array Value),k≤evs.length∧v7=.int .i64 k∧wr.ownsRow W.heap.size 39 4 v3 k (evCs (evs.take k))∧Below B W wr∧wr.heap[g]?=some (.cells cur2 92 (0,0))∧cur2.size=cap * 4∧∀ j,k * 4≤j→j < evs.length * 4→cur2[j]?=(evCs evs)[j]?) (fun _ v7 _=>evs.length - (intOf v7).toNat)
    case atStart=>exact ⟨0,cur,Nat.zero_le _,rfl,by simpa [evCs] using World.ownsRow_nil _ _ _ _,Below.refl _ _,hg,hcs,fun j _ hj=>hcur j hj⟩
    case round =>
      clear hcur hcs hg
      obtain ⟨k,cur2,hk,rfl,hown,hbel,hg,hcs,hcur⟩:=hrel
      have hbs:=hbel.size
      by_cases hlt:k < evs.length
      · obtain ⟨ev,hev⟩:∃ ev,evs[k]?=some ev:=⟨evs[k],List.getElem?_eq_getElem hlt⟩
        obtain ⟨q0,q1,q2,q3⟩:=evCs_at evs k ev hev
        have c0:=row_cell hg ((hcur (k * 4) (by omega) (by omega)).trans q0)
        have c1:=row_cell hg ((hcur (k * 4+1) (by omega) (by omega)).trans q1)
        have c2:=row_cell hg ((hcur (k * 4+2) (by omega) (by omega)).trans q2)
        have c3:=row_cell hg ((hcur (k * 4+3) (by omega) (by omega)).trans q3)
        have hcE:=fun W=>pevent_any ev.kind ev.level ev.fin ⟨ev.text.toArray⟩ W
        have HS:Hid (evCs (evs.take (k+1))=evCs (evs.take k)++evCells ev):=evs_snoc evs k ev hev
        have HC:Hid (∀ j,k * 4≤j→j < evs.length * 4→cur2[j]?=(evCs evs)[j]?):=hcur
        have hq0:=(hcur (k * 4) (by omega) (by omega)).trans q0
        have hq1:=(hcur (k * 4+1) (by omega) (by omega)).trans q1
        have hq2:=(hcur (k * 4+2) (by omega) (by omega)).trans q2
        have hq3:=(hcur (k * 4+3) (by omega) (by omega)).trans q3
        clear hcur q0 q1 q2 q3 hev
        go_wp2_with (first | (go_at_call 48;refine (hcE _).mono ?_;rintro e w1 ⟨rfl,b1⟩;have hg1:=(b1.block g (by omega)).trans hg;have hown1:=own_below hown b1 (Nat.le_refl _);have s1:=b1.size) | (at_builtin;refine wpList_append_own _ rfl _ _ 22 rfl W.heap.size 39 j0 (.agg #[.int .i64 0,.bool false,.int .i64 0,.string ⟨#[]⟩]) 4 40 Tryz.underlying22 hj hy0 hy1 hy2 rfl (by decide) _ _ _ rfl (hown1.alloc _) ⟨w1.heap.size,0,none⟩ 1 1 (evCells ev) rfl rfl (ev_cell _ _ _ (by simp)) (ev_one _) (by unfold maxLen;omega) (by omega) (by simp;omega) ?_;intro v' w2 own2 grow2 _;have hne:some g ≠ u3.ownBlock:=(fun h=>by have:=(hown.lt g h.symm).1;omega);have hg2:=(grow2.block g (by simp;omega) hne).trans ((Below.heap_alloc w1 _ g (by omega)).trans hg1);have d0:=row_free (i:=k * 4) hg2;have d1:=row_free (i:=k * 4+1) hg2;have d2:=row_free (i:=k * 4+2) hg2;have d3:=row_free (i:=k * 4+3) hg2;have e0:=row_cell hg2 hq0;have e1:=row_cell hg2 hq1;have e2:=row_cell hg2 hq2;have e3:=row_cell hg2 hq3))
        go_roundw
        case rel =>
          have hb2:Below B W w2:=((hbel.trans (b1.mono (by omega))).alloc (by omega) _).grown grow2 (by simp;omega) (fun b hb=>by have:=(hown1.lt b hb).1;omega)
          have own3:w2.ownsRow W.heap.size 39 4 v' (k+1) (evCs (evs.take (k+1))):=by rw [HS.out];exact own2
          refine ⟨k+1,_,by omega,by go_num,ownsRow_setCell_below (ownsRow_setCell_below (ownsRow_setCell_below (ownsRow_setCell_below own3 hglt _) hglt _) hglt _) hglt _,(((hb2.setCell (p:=⟨g,k * 4,none⟩) hBg _).setCell (p:=⟨g,k * 4+1,none⟩) hBg _).setCell (p:=⟨g,k * 4+2,none⟩) hBg _).setCell (p:=⟨g,k * 4+3,none⟩) hBg _,set_row (set_row (set_row (set_row hg2))),by simpa using hcs,?_⟩
          intro j hj1 hj2
          rw [Array.getElem?_setIfInBounds_ne (by omega),Array.getElem?_setIfInBounds_ne (by omega),Array.getElem?_setIfInBounds_ne (by omega),Array.getElem?_setIfInBounds_ne (by omega)]
          exact HC.out j (by omega) hj2
        case measure=>simp [intOf];omega
      · have hke:k=evs.length:=by omega
        subst hke
        rw [List.take_length] at hown
        go_wp2
        go_ret
        exact ⟨_,rfl,hown,hbel⟩
end Go.Proofs.YtljcljipppjnoaaGreatDoor
namespace Go.Proofs.YtljcljipppjnoaaGreatDoor
open Go.RowKit
def signN (n:Nat):Bool:=(decide (33≤n) && decide (n≤47)) || (decide (58≤n) && decide (n≤64)) || (decide (91≤n) && decide (n≤96)) || (decide (123≤n) && decide (n≤126))
def signS (c:UInt8):Bool:=signN c.toNat
def nextAt (l:List UInt8) (c:UInt8) (k:Nat):Nat:=k+((l.drop k).takeWhile fun x=>!(x == c)).length
def foundZ (l:List UInt8) (c:UInt8) (k:Nat):Int:=if nextAt l c k < l.length then (nextAt l c k:Int) else -1
def spacedL (l:List UInt8):List UInt8:=l.map fun c=>if c=10 then 32 else c
theorem next_ge (l:List UInt8) (c:UInt8) (k:Nat):k≤nextAt l c k:=by unfold nextAt;omega
theorem next_lt (l:List UInt8) (c:UInt8) (n:Nat) (h:n < l.length) (hb:(l[n] == c)=false):nextAt l c n=nextAt l c (n+1):=by
  unfold nextAt
  rw [List.drop_eq_getElem_cons h,List.takeWhile_cons,if_pos (by simp [hb])]
  simp
  omega
theorem next_at (l:List UInt8) (c:UInt8) (n:Nat) (h:n < l.length) (hb:(l[n] == c)=true):nextAt l c n=n:=by
  unfold nextAt
  rw [List.drop_eq_getElem_cons h,List.takeWhile_cons,if_neg (by simp [hb])]
  rfl
theorem next_end (l:List UInt8) (c:UInt8) (n:Nat) (h:l.length≤n):nextAt l c n=n:=by
  unfold nextAt
  rw [List.drop_eq_nil_iff.2 h]
  rfl
theorem ba_len (s:ByteArray):s.data.toList.length=s.size:=by rw [Array.length_toList];rfl
set_option maxHeartbeats 1000000 in
theorem rsign_any (c:UInt8) (w:World) :
    Calls Tryz.prog 100 #[.int .u8 c.toNat] w fun e w'=>e=.returned (.bool (signS c))∧w'=w:=by
  have hc:c.toNat < 256:=c.toNat_lt
  unfold signS
  generalize c.toNat=n at hc
  have hq:n < 33∨(33≤n∧n≤47)∨(48≤n∧n≤57)∨(58≤n∧n≤64)∨(65≤n∧n≤90)∨(91≤n∧n≤96)∨(97≤n∧n≤122)∨(123≤n∧n≤126)∨127≤n:=by omega
  rcases hq with h | ⟨h,h'⟩ | ⟨h,h'⟩ | ⟨h,h'⟩ | ⟨h,h'⟩ | ⟨h,h'⟩ | ⟨h,h'⟩ | ⟨h,h'⟩ | h
  all_goals
    first
    | (have HV:Hid (signN n=true):=by show _=_;unfold signN;simp;omega)
    | (have HV:Hid (signN n=false):=by show _=_;unfold signN;simp;omega)
    go_enter Tryz.func100,Tryz.ntmps100
    go_wp2
    go_ret
    rw [HV.out]
    refine ⟨?_,rfl⟩
    first
    | rfl
    | (refine congrArg (fun b=>Ending.returned (Value.bool b)) ?_;simp;omega)
set_option maxHeartbeats 1000000 in
theorem rfind_any (s:ByteArray) (c:UInt8) (k:Nat) (w:World) (hs:s.size≤4611686018427387904) (hk:k≤s.size+2) :
    Calls Tryz.prog 94 #[.string s,.int .u8 c.toNat,.int .i64 k] w fun e w'=>e=.returned (.int .i64 (foundZ s.data.toList c k))∧w'=w:=by
  have hl:=ba_len s
  go_enter Tryz.func94,Tryz.ntmps94
  go_wp2
  go_loop [7] (fun i=>∃ j:Nat,k≤j∧j≤s.size+2∧i=.int .i64 j∧Hid (nextAt s.data.toList c j=nextAt s.data.toList c k)) (fun i=>s.size+2 - (intOf i).toNat)
  case atStart=>exact ⟨k,Nat.le_refl _,hk,rfl,(by show _=_;rfl)⟩
  case round =>
    obtain ⟨j,hj1,hj2,rfl,HN⟩:=hrel
    by_cases hlt:j < s.size
    · have he:=u8_eq s[j] c
      cases hb:(s[j] == c) with
      | true =>
        have HF:Hid (foundZ s.data.toList c k=j):=by
          show _=_
          have:=next_at s.data.toList c j (by omega) hb
          rw [HN.out] at this
          rw [foundZ,this,if_pos (by omega)]
        rw [hb] at he
        clear hb
        go_wp2
        go_ret
        rw [HF.out]
        exact ⟨rfl,rfl⟩
      | false =>
        have HN2:Hid (nextAt s.data.toList c (j+1)=nextAt s.data.toList c k):=by
          show _=_
          rw [← next_lt s.data.toList c j (by omega) hb,HN.out]
        rw [hb] at he
        clear hb
        go_wp2
        go_round
        case rel=>exact ⟨j+1,by omega,by omega,by go_num,HN2⟩
        case measure=>simp [intOf];omega
    · have HF:Hid (foundZ s.data.toList c k=-1):=by
        show _=_
        have:=next_end s.data.toList c j (by omega)
        rw [HN.out] at this
        rw [foundZ,if_neg (by omega)]
      go_wp2
      go_ret
      rw [HF.out]
      exact ⟨rfl,rfl⟩
theorem spaced_snoc (l:List UInt8) (c:UInt8):spacedL (l++[c])=spacedL l++[if c=10 then 32 else c]:=by simp [spacedL]
set_option maxHeartbeats 1000000 in
theorem rspaced_any (s:ByteArray) (w:World) (hs:s.size≤4611686018427387904) :
    Calls Tryz.prog 101 #[.string s] w fun e w'=>e=.returned (.string ⟨(spacedL s.data.toList).toArray⟩)∧w'=w:=by
  have hl:=ba_len s
  go_enter Tryz.func101,Tryz.ntmps101
  go_wp2
  go_loop [3,4] (fun t i=>∃ (k:Nat) (acc:List UInt8),k≤s.size∧i=.int .i64 k∧t=.string ⟨acc.toArray⟩∧Hid (acc=spacedL (s.data.toList.take k))∧acc.length≤k) (fun _ i=>s.size - (intOf i).toNat)
  case atStart=>exact ⟨0,[],Nat.zero_le _,rfl,rfl,(by show _=_;rfl),Nat.le_refl _⟩
  case round =>
    obtain ⟨k,acc,hk,rfl,rfl,HA,hal⟩:=hrel
    have hs1:=size_of acc
    by_cases hlt:k < s.size
    · have he:=u8_eq s[k] 10
      have hx:(s.extract k (k+1))=⟨[s[k]].toArray⟩:=by
        apply ByteArray.ext
        apply Array.ext'
        rw [Lib.extract_data,drop_cons s k hlt,show k+1 - k=1 by omega]
        rfl
      by_cases hb:s[k]=10
      · have HA2:Hid (acc++[32]=spacedL (s.data.toList.take (k+1))):=by
          show _=_
          rw [take_snoc s k hlt,spaced_snoc,if_pos hb,HA.out]
        have hb2:((s[k].toNat:Int) == 10)=true:=by rw [hb];rfl
        clear he hb hx
        go_wp2
        go_round
        case rel=>exact ⟨k+1,acc++[32],by omega,by go_num,congrArg Value.string (ba_app acc [32]),HA2,by simp;omega⟩
        case measure=>simp [intOf];omega
      · have HA2:Hid (acc++[s[k]]=spacedL (s.data.toList.take (k+1))):=by
          show _=_
          rw [take_snoc s k hlt,spaced_snoc,if_neg hb,HA.out]
        have hb2:((s[k].toNat:Int) == 10)=false:=by
          have:(s[k] == 10)=false:=by rw [beq_eq_false_iff_ne];exact hb
          rw [this] at he
          exact he
        have HX:Hid ((s.extract k (k+1))=⟨[s[k]].toArray⟩):=hx
        have hxs:(s.extract k (k+1)).size=1:=by rw [hx];rfl
        clear he hb hx
        go_wp2
        go_round
        case rel=>exact ⟨k+1,acc++[s[k]],by omega,by go_num,by rw [HX.out];exact congrArg Value.string (ba_app acc [s[k]]),HA2,by simp;omega⟩
        case measure=>simp [intOf];omega
    · have HF:Hid (acc=spacedL s.data.toList):=by
        show _=_
        rw [HA.out,List.take_of_length_le (by omega)]
      go_wp2
      go_ret
      rw [← HF.out]
      exact ⟨rfl,rfl⟩
end Go.Proofs.YtljcljipppjnoaaGreatDoor
namespace Go.Proofs.YtljcljipppjnoaaGreatDoor
open Go.RowKit
def addS (evs:List Ev) (t:List UInt8):List Ev :=
  match evs.getLast? with
  | some e=>if e.kind=8 then evs.dropLast++[⟨e.kind,e.fin,e.level,e.text++t⟩] else evs++[⟨8,false,0,t⟩]
  | none=>evs++[⟨8,false,0,t⟩]
theorem add_last (pre:List Ev) (e:Ev) (t:List UInt8):addS (pre++[e]) t=if e.kind=8 then pre++[⟨e.kind,e.fin,e.level,e.text++t⟩] else pre++[e]++[⟨8,false,0,t⟩]:=by
  simp [addS]
theorem add_nil (t:List UInt8):addS [] t=[⟨8,false,0,t⟩]:=rfl
theorem own_last {w:World} {B g cap:Nat} {T:TypeId} (pre:List Ev) (e:Ev) (t:List UInt8) (h:w.ownsRow B T 4 (.slice (some ⟨g,0,none⟩) (pre.length+1) cap) (pre.length+1) (evCs (pre++[e]))) :
    (w.setCell ⟨g,pre.length * 4+3,none⟩ (.string ⟨t.toArray⟩)).ownsRow B T 4 (.slice (some ⟨g,0,none⟩) (pre.length+1) cap) (pre.length+1) (evCs (pre++[⟨e.kind,e.fin,e.level,t⟩])):=by
  refine ⟨by rw [evCs_length];simp,?_⟩
  rcases h.2 with ⟨hv,_⟩ | ⟨g',cap',cur,hv,hB,hg,hnc,hcm,hcs,htk⟩
  · cases hv
  · cases hv
    refine Or.inr ⟨g,cap,_,rfl,hB,set_row hg,hnc,hcm,by simpa using hcs,?_⟩
    have e1:evCs (pre++[⟨e.kind,e.fin,e.level,t⟩])=(evCs (pre++[e])).set (pre.length * 4+3) (.string ⟨t.toArray⟩):=by
      rw [evCs_append,evCs_append,evCs_one,evCs_one,List.set_append_right _ _ (by rw [evCs_length];omega),evCs_length]
      congr 1
      rw [show pre.length * 4+3 - pre.length * 4=3 by omega]
      rfl
    rw [e1,← htk,Array.toList_setIfInBounds,List.take_set]
set_option maxRecDepth 100000 in
set_option maxHeartbeats 2000000 in
theorem radd_any (B:Nat) (v:Value) (evs:List Ev) (t:List UInt8) (w:World) (hB:B≤w.heap.size) (hown:w.ownsRow B 83 4 v evs.length (evCs evs)) (hlen:evs.length≤1099511627776) (ht:t.length≤1099511627776) (hx:∀ e ∈ evs,e.text.length≤1099511627776) :
    Calls Tryz.prog 80 #[v,.string ⟨t.toArray⟩] w fun e w'=>∃ v',e=.returned v'∧w'.ownsRow B 83 4 v' (addS evs t).length (evCs (addS evs t))∧Below B w w':=by
  obtain ⟨j0,hj,hy0,hy1,hy2⟩:=info_parts Tryz.infoEv
  rcases List.eq_nil_or_concat evs with rfl | ⟨pre,e,rfl⟩
  · rcases Joins.ownsRow_forms hown with ⟨rfl,_⟩ | ⟨g,cap,rfl⟩
    all_goals
      simp only [List.length_nil] at hown ⊢
      rw [add_nil]
      go_enter Tryz.func80,Tryz.ntmps80
      go_wp2_with (at_builtin;refine wpList_append_own _ rfl _ _ 27 rfl B 83 j0 (.agg #[.int .i64 0,.bool false,.int .i64 0,.string ⟨#[]⟩]) 4 40 Tryz.underlying27 hj hy0 hy1 hy2 rfl (by decide) _ 0 (evCs []) rfl (hown.alloc _) ⟨w.heap.size,0,none⟩ 1 1 (evCells ⟨8,false,0,t⟩) rfl rfl (ev_cell _ _ _ rfl) (ev_one _) (by decide) (by decide) (by simp;omega) ?_;intro v' w1 own1 grow1 _)
      go_ret
      exact ⟨v',rfl,by simpa [evCs] using own1,((Below.refl B w).alloc hB _).grown grow1 (by simp;omega) (fun b hb=>(hown.lt b hb).1)⟩
  · rw [List.concat_eq_append] at hown hlen hx ⊢
    have hl1:(pre++[e]).length=pre.length+1:=by simp
    rw [hl1] at hown hlen
    rcases Joins.ownsRow_forms hown with ⟨_,h0⟩ | ⟨g,cap,rfl⟩
    · omega
    have hxe:e.text.length≤1099511627776:=hx e (by simp)
    have hgl:=hown.lt g rfl
    have hrow:∃ cur,w.heap[g]?=some (.cells cur 83 (0,0))∧(∀ j,j < (pre.length+1) * 4→cur[j]?=(evCs (pre++[e]))[j]?):=by
      rcases hown.2 with ⟨hv,_⟩ | ⟨g',cap',cur,hv,_,hg,_,_,_,htk⟩
      · cases hv
      · cases hv
        refine ⟨cur,hg,fun j hj=>?_⟩
        have:=congrArg (fun l=>l[j]?) htk
        simp only [List.getElem?_take_of_lt hj,Array.getElem?_toList] at this
        exact this
    obtain ⟨cur,hg,hcur⟩:=hrow
    obtain ⟨q0,q1,q2,q3⟩:=evCs_at (pre++[e]) pre.length e (by simp)
    have c0:=row_cell hg ((hcur (pre.length * 4) (by omega)).trans q0)
    have c3:=row_cell hg ((hcur (pre.length * 4+3) (by omega)).trans q3)
    have f3:=row_free (i:=pre.length * 4+3) hg
    rw [add_last]
    have hs1:=size_of e.text
    have hs2:=size_of t
    by_cases hk:e.kind=8
    · rw [if_pos hk]
      have HO:Hid _:=own_last pre e (e.text++t) hown
      rw [hk] at c0
      have hl2:(pre++[(⟨e.kind,e.fin,e.level,e.text++t⟩:Ev)]).length=pre.length+1:=by simp
      rw [hl2]
      have HBA:Hid ((⟨e.text.toArray⟩:ByteArray)++⟨t.toArray⟩=⟨(e.text++t).toArray⟩):=ba_app e.text t
      clear q0 q1 q2 q3 hcur hg hk hx
      go_enter Tryz.func80,Tryz.ntmps80
      go_wp2
      go_ret
      rw [HBA.out]
      exact ⟨_,rfl,HO.out,Below.setCell (B:=B) (Below.refl B w) (p:=⟨g,pre.length * 4+3,none⟩) hgl.1 _⟩
    · rw [if_neg hk]
      have hk2:(e.kind == 8)=false:=by rw [beq_eq_false_iff_ne];exact hk
      have hl2:(pre++[e]++[(⟨8,false,0,t⟩:Ev)]).length=pre.length+1+1:=by simp
      have he2:evCs (pre++[e]++[(⟨8,false,0,t⟩:Ev)])=evCs (pre++[e])++evCells ⟨8,false,0,t⟩:=by rw [evCs_append,evCs_one]
      rw [hl2,he2]
      generalize evCs (pre++[e])=xs at hown ⊢
      clear q0 q1 q2 q3 hcur hg hk hx hl2 he2 c3 f3
      go_enter Tryz.func80,Tryz.ntmps80
      go_wp2_with (at_builtin;refine wpList_append_own _ rfl _ _ 27 rfl B 83 j0 (.agg #[.int .i64 0,.bool false,.int .i64 0,.string ⟨#[]⟩]) 4 40 Tryz.underlying27 hj hy0 hy1 hy2 rfl (by decide) _ _ _ rfl (hown.alloc _) ⟨w.heap.size,0,none⟩ 1 1 (evCells ⟨8,false,0,t⟩) rfl rfl (ev_cell _ _ _ rfl) (ev_one _) (by unfold maxLen;omega) (by omega) (by simp;omega) ?_;intro v' w1 own1 grow1 _)
      go_ret
      exact ⟨v',rfl,own1,((Below.refl B w).alloc hB _).grown grow1 (by simp;omega) (fun b hb=>(hown.lt b hb).1)⟩
end Go.Proofs.YtljcljipppjnoaaGreatDoor
namespace Go.Proofs.YtljcljipppjnoaaGreatDoor
open Go.RowKit
def endsL (c:UInt8):Bool:=c == 41 || c == 32 || c == 9 || c == 10 || c == 40
def stopAt (l:List UInt8) (k:Nat):Nat:=k+((l.drop k).takeWhile fun x=>!endsL x).length
theorem stop_lt (l:List UInt8) (n:Nat) (h:n < l.length) (hb:endsL l[n]=false):stopAt l n=stopAt l (n+1):=by
  unfold stopAt
  rw [List.drop_eq_getElem_cons h,List.takeWhile_cons,if_pos (by simp [hb])]
  simp
  omega
theorem stop_at (l:List UInt8) (n:Nat) (h:n < l.length) (hb:endsL l[n]=true):stopAt l n=n:=by
  unfold stopAt
  rw [List.drop_eq_getElem_cons h,List.takeWhile_cons,if_neg (by simp [hb])]
  rfl
theorem stop_end (l:List UInt8) (n:Nat) (h:l.length≤n):stopAt l n=n:=by
  unfold stopAt
  rw [List.drop_eq_nil_iff.2 h]
  rfl
theorem stop_ge (l:List UInt8) (n:Nat):n≤stopAt l n:=by unfold stopAt;omega
def linkS (l:List UInt8) (i:Nat):Option (Nat × Nat) :=
  if nextAt l 93 i < l.length∧¬ nextAt l 91 (i+1) < nextAt l 93 i∧l[nextAt l 93 i+1]?=some 40∧l[stopAt l (nextAt l 93 i+2)]?=some 41 then some (nextAt l 93 i,stopAt l (nextAt l 93 i+2)) else none
def linkV:Option (Nat × Nat)→Value
  | some x=>.tuple #[.int .i64 x.1,.int .i64 (x.1+2:Nat),.int .i64 x.2,.bool true]
  | none=>.tuple #[.int .i64 0,.int .i64 0,.int .i64 0,.bool false]
set_option maxRecDepth 100000 in
set_option maxHeartbeats 2000000 in
theorem rlink_any (s:ByteArray) (i:Nat) (w:World) (hs:s.size≤1099511627776) (hi:i < s.size) :
    Calls Tryz.prog 102 #[.string s,.int .i64 i] w fun e w'=>e=.returned (linkV (linkS s.data.toList i))∧w'=w:=by
  have hl:=ba_len s
  have c1:=fun W=>rfind_any s 93 i W (by omega) (by omega)
  have c2:=fun W=>rfind_any s 91 (i+1) W (by omega) (by omega)
  have e93:((93:UInt8).toNat:Int)=93:=rfl
  have e91:((91:UInt8).toNat:Int)=91:=rfl
  have en:((i+1:Nat):Int)=(i:Int)+1:=by omega
  rw [e93] at c1
  rw [e91,en] at c2
  have HL:Hid (linkS s.data.toList i=if nextAt s.data.toList 93 i < s.data.toList.length∧¬ nextAt s.data.toList 91 (i+1) < nextAt s.data.toList 93 i∧s.data.toList[nextAt s.data.toList 93 i+1]?=some 40∧s.data.toList[stopAt s.data.toList (nextAt s.data.toList 93 i+2)]?=some 41 then some (nextAt s.data.toList 93 i,stopAt s.data.toList (nextAt s.data.toList 93 i+2)) else none):=by show _=_;rfl
  have F1:foundZ s.data.toList 93 i=if nextAt s.data.toList 93 i < s.data.toList.length then (nextAt s.data.toList 93 i:Int) else -1:=rfl
  have F2:foundZ s.data.toList 91 (i+1)=if nextAt s.data.toList 91 (i+1) < s.data.toList.length then (nextAt s.data.toList 91 (i+1):Int) else -1:=rfl
  have hg1:=next_ge s.data.toList 93 i
  generalize nextAt s.data.toList 93 i=j at HL F1 hg1
  generalize nextAt s.data.toList 91 (i+1)=k at HL F2
  generalize foundZ s.data.toList 93 i=zj at c1 F1
  generalize foundZ s.data.toList 91 (i+1)=zk at c2 F2
  rw [hl] at F1 F2
  have hno:(¬ (j < s.size∧¬ k < j∧s.data.toList[j+1]?=some 40∧s.data.toList[stopAt s.data.toList (j+2)]?=some 41))→Hid (linkV (linkS s.data.toList i)=.tuple #[.int .i64 0,.int .i64 0,.int .i64 0,.bool false]):=by
    intro h
    show _=_
    rw [HL.out,hl,if_neg h]
    rfl
  by_cases hj:j < s.size
  · rw [if_pos hj] at F1
    subst F1
    by_cases hk:k < j
    · rw [if_pos (by omega)] at F2
      subst F2
      have HN:=hno (fun h=>h.2.1 hk)
      clear hno HL
      go_enter Tryz.func102,Tryz.ntmps102
      go_wp2_with (first | (go_at_call_of 94 (Value.int IntKind.u8 93);refine (c1 _).mono ?_;rintro e w' ⟨rfl,hw⟩;rw [hw];clear hw) | (go_at_call_of 94 (Value.int IntKind.u8 91);refine (c2 _).mono ?_;rintro e w' ⟨rfl,hw⟩;rw [hw];clear hw))
      exact bodyPost_ret (v:=.tuple #[.int .i64 0,.int .i64 0,.int .i64 0,.bool false]) (by simp [results,Tryz.results102,go_sem]) rfl ⟨by rw [HN.out],rfl⟩
    · have hz:zk=-1∨∃ k':Nat,zk=(k':Int)∧j≤k'∧k' < s.size:=by
        by_cases h:k < s.size
        · rw [if_pos h] at F2
          exact Or.inr ⟨k,F2,by omega,h⟩
        · rw [if_neg h] at F2
          exact Or.inl F2
      by_cases h1:j+1 < s.size
      · have hat:s.data.toList[j+1]?=some s[j+1]:=at_some s (j+1) h1
        by_cases h40:s[j+1]=40
        · have g40:((s[j+1].toNat:Int) == 40)=true:=by rw [h40];rfl
          have g40':((s[j+1].toNat:Int) != 40)=false:=by rw [h40];rfl
          have hyes:∀ e:Nat,stopAt s.data.toList (j+2)=e→s.data.toList[e]?=some 41→Hid (linkV (linkS s.data.toList i)=.tuple #[.int .i64 j,.int .i64 (j+2:Nat),.int .i64 e,.bool true]):=by
            intro e h1 h2
            show _=_
            rw [HL.out,hl,if_pos ⟨hj,hk,by rw [hat,h40],by rw [h1];exact h2⟩,h1]
            rfl
          have hnone:∀ e:Nat,stopAt s.data.toList (j+2)=e→s.data.toList[e]? ≠ some 41→Hid (linkV (linkS s.data.toList i)=.tuple #[.int .i64 0,.int .i64 0,.int .i64 0,.bool false]):=fun e h1 h2=>hno (fun h=>h2 (by rw [← h1];exact h.2.2.2))
          have HY:Hid _:=hyes
          have HO:Hid _:=hnone
          clear hno HL hyes hnone hat h40 F2
          rcases hz with rfl | ⟨k',rfl,hk1,hk2⟩
          all_goals
            go_enter Tryz.func102,Tryz.ntmps102
            go_wp2_with (first | (go_at_call_of 94 (Value.int IntKind.u8 93);refine (c1 _).mono ?_;rintro e w' ⟨rfl,hw⟩;rw [hw];clear hw) | (go_at_call_of 94 (Value.int IntKind.u8 91);refine (c2 _).mono ?_;rintro e w' ⟨rfl,hw⟩;rw [hw];clear hw))
            go_loop [10] (fun v=>∃ e:Nat,j+2≤e∧e≤s.size∧v=.int .i64 e∧Hid (stopAt s.data.toList e=stopAt s.data.toList (j+2))) (fun v=>s.size - (intOf v).toNat)
            case atStart=>exact ⟨j+2,Nat.le_refl _,by omega,by go_num,(by show _=_;rfl)⟩
            case round =>
              obtain ⟨e,he1,he2,rfl,HS⟩:=hrel
              clear c1 c2
              by_cases hlt:e < s.size
              · have hate:s.data.toList[e]?=some s[e]:=at_some s e hlt
                have hstop:endsL s[e]=true→stopAt s.data.toList (j+2)=e:=fun h=>by rw [← HS.out];exact stop_at s.data.toList e (by omega) h
                have t41:=u8_eq s[e] 41
                have t32:=u8_eq s[e] 32
                have t9:=u8_eq s[e] 9
                have t10:=u8_eq s[e] 10
                have t40:=u8_eq s[e] 40
                have HE:Hid (endsL s[e]=(s[e] == 41 || s[e] == 32 || s[e] == 9 || s[e] == 10 || s[e] == 40)):=by show _=_;rfl
                cases b41:(s[e] == 41) with
                | true =>
                  have HN:=HY.out e (hstop (by rw [HE.out,b41];rfl)) (by rw [hate];simpa using b41)
                  rw [b41] at t41
                  replace t41:((s[e].toNat:Int) == 41)=true:=t41
                  clear HY HO hstop HE t32 t9 t10 t40 hate b41
                  go_wp2
                  exact bodyPost_ret (v:=.tuple #[.int .i64 j,.int .i64 (j+2:Nat),.int .i64 e,.bool true]) (by simp [results,Tryz.results102,go_sem]) rfl ⟨by rw [HN.out],rfl⟩
                | false =>
                  have hne41:s.data.toList[e]? ≠ some 41:=by rw [hate];simpa using b41
                  rw [b41] at t41
                  replace t41:((s[e].toNat:Int) == 41)=false:=t41
                  by_cases hall:(s[e] == 32 || s[e] == 9 || s[e] == 10 || s[e] == 40)=true
                  · have HN:=HO.out e (hstop (by rw [HE.out,b41];simpa using hall)) hne41
                    have hall2:(((s[e].toNat:Int) == 32) || ((s[e].toNat:Int) == 9) || ((s[e].toNat:Int) == 10) || ((s[e].toNat:Int) == 40))=true:=by
                      rw [show ((s[e].toNat:Int) == 32)=(s[e] == 32) from t32,show ((s[e].toNat:Int) == 9)=(s[e] == 9) from t9,show ((s[e].toNat:Int) == 10)=(s[e] == 10) from t10,show ((s[e].toNat:Int) == 40)=(s[e] == 40) from t40]
                      exact hall
                    clear HY HO hstop HE t32 t9 t10 t40 hate b41 hall hne41
                    cases y32:((s[e].toNat:Int) == 32)
                    all_goals
                      cases y9:((s[e].toNat:Int) == 9)
                      all_goals
                        cases y10:((s[e].toNat:Int) == 10)
                        all_goals
                          cases y40:((s[e].toNat:Int) == 40)
                          all_goals
                            first
                            | (exfalso;rw [y32,y9,y10,y40] at hall2;cases hall2;done)
                            | (clear hall2;go_wp2;exact bodyPost_ret (v:=.tuple #[.int .i64 0,.int .i64 0,.int .i64 0,.bool false]) (by simp [results,Tryz.results102,go_sem]) rfl ⟨by rw [HN.out],rfl⟩)
                  · have HS2:Hid (stopAt s.data.toList (e+1)=stopAt s.data.toList (j+2)):=by
                      show _=_
                      rw [← HS.out]
                      refine (stop_lt s.data.toList e (by omega) ?_).symm
                      show endsL s[e]=false
                      rw [HE.out,b41]
                      simpa using hall
                    have hf:(s[e] == 32)=false∧(s[e] == 9)=false∧(s[e] == 10)=false∧(s[e] == 40)=false:=by
                      simp only [Bool.not_eq_true,Bool.or_eq_false_iff] at hall
                      exact ⟨hall.1.1.1,hall.1.1.2,hall.1.2,hall.2⟩
                    rw [hf.1] at t32
                    rw [hf.2.1] at t9
                    rw [hf.2.2.1] at t10
                    rw [hf.2.2.2] at t40
                    replace t32:((s[e].toNat:Int) == 32)=false:=t32
                    replace t9:((s[e].toNat:Int) == 9)=false:=t9
                    replace t10:((s[e].toNat:Int) == 10)=false:=t10
                    replace t40:((s[e].toNat:Int) == 40)=false:=t40
                    clear HY HO hstop HE hate b41 hall hne41 hf
                    go_wp2
                    go_round
                    case rel=>exact ⟨e+1,by omega,by omega,by go_num,HS2⟩
                    case measure=>simp [intOf];omega
              · have HN:=HO.out e (by rw [← HS.out];exact stop_end s.data.toList e (by omega)) (by rw [at_none s e (by omega)];simp)
                clear HY HO
                go_wp2
                exact bodyPost_ret (v:=.tuple #[.int .i64 0,.int .i64 0,.int .i64 0,.bool false]) (by simp [results,Tryz.results102,go_sem]) rfl ⟨by rw [HN.out],rfl⟩
        · have HN:=hno (fun h=>h40 (by have:=h.2.2.1;rw [hat] at this;exact Option.some.inj this))
          have g40:((s[j+1].toNat:Int) == 40)=false:=(u8_eq s[j+1] 40).trans (beq_eq_false_iff_ne.2 h40)
          have g40':((s[j+1].toNat:Int) != 40)=true:=by rw [bne,g40];rfl
          clear hno HL hat h40 F2
          rcases hz with rfl | ⟨k',rfl,hk1,hk2⟩
          all_goals
            go_enter Tryz.func102,Tryz.ntmps102
            go_wp2_with (first | (go_at_call_of 94 (Value.int IntKind.u8 93);refine (c1 _).mono ?_;rintro e w' ⟨rfl,hw⟩;rw [hw];clear hw) | (go_at_call_of 94 (Value.int IntKind.u8 91);refine (c2 _).mono ?_;rintro e w' ⟨rfl,hw⟩;rw [hw];clear hw))
            exact bodyPost_ret (v:=.tuple #[.int .i64 0,.int .i64 0,.int .i64 0,.bool false]) (by simp [results,Tryz.results102,go_sem]) rfl ⟨by rw [HN.out],rfl⟩
      · have HN:=hno (fun h=>by have:=h.2.2.1;rw [at_none s (j+1) h1] at this;cases this)
        clear hno HL F2
        rcases hz with rfl | ⟨k',rfl,hk1,hk2⟩
        all_goals
          go_enter Tryz.func102,Tryz.ntmps102
          go_wp2_with (first | (go_at_call_of 94 (Value.int IntKind.u8 93);refine (c1 _).mono ?_;rintro e w' ⟨rfl,hw⟩;rw [hw];clear hw) | (go_at_call_of 94 (Value.int IntKind.u8 91);refine (c2 _).mono ?_;rintro e w' ⟨rfl,hw⟩;rw [hw];clear hw))
          exact bodyPost_ret (v:=.tuple #[.int .i64 0,.int .i64 0,.int .i64 0,.bool false]) (by simp [results,Tryz.results102,go_sem]) rfl ⟨by rw [HN.out],rfl⟩
  · rw [if_neg hj] at F1
    subst F1
    have HN:=hno (fun h=>hj h.1)
    clear hno HL F2
    go_enter Tryz.func102,Tryz.ntmps102
    go_wp2_with (first | (go_at_call_of 94 (Value.int IntKind.u8 93);refine (c1 _).mono ?_;rintro e w' ⟨rfl,hw⟩;rw [hw];clear hw) | (go_at_call_of 94 (Value.int IntKind.u8 91);refine (c2 _).mono ?_;rintro e w' ⟨rfl,hw⟩;rw [hw];clear hw))
    exact bodyPost_ret (v:=.tuple #[.int .i64 0,.int .i64 0,.int .i64 0,.bool false]) (by simp [results,Tryz.results102,go_sem]) rfl ⟨by rw [HN.out],rfl⟩
end Go.Proofs.YtljcljipppjnoaaGreatDoor
namespace Go.Proofs.YtljcljipppjnoaaGreatDoor
open Go.RowKit
def bl3 (c:UInt8):Bool:=c == 32 || c == 9 || c == 10
def pnext (l:List UInt8) (j:Nat):Nat :=
  if l[j]?=some 96∧nextAt l 96 (j+1) < l.length then nextAt l 96 (j+1)+1
  else if l[j]?=some 92∧(l[j+1]?.map fun c=>signS c || c == 10)=some true then j+2 else j+1
theorem pnext_gt (l:List UInt8) (j:Nat):j < pnext l j:=by
  unfold pnext
  have:=next_ge l 96 (j+1)
  split
  · omega
  · split <;> omega
def pfrom (l:List UInt8) (j:Nat):Nat:=if _h:j < l.length∧l[j]? ≠ some 42 then pfrom l (pnext l j) else j
termination_by l.length - j
decreasing_by (have:=pnext_gt l j;omega)
theorem pfrom_go (l:List UInt8) (j:Nat) (h:j < l.length) (h2:l[j]? ≠ some 42):pfrom l j=pfrom l (pnext l j):=by rw [pfrom,dif_pos ⟨h,h2⟩]
theorem pfrom_at (l:List UInt8) (j:Nat) (h:¬ (j < l.length∧l[j]? ≠ some 42)):pfrom l j=j:=by rw [pfrom,dif_neg h]
def partnerS (l:List UInt8) (i:Nat):Option Nat :=
  if pfrom l (i+1) < l.length∧pfrom l (i+1) ≠ i+1∧l[i+1]?.map bl3=some false∧l[pfrom l (i+1) - 1]?.map bl3=some false then some (pfrom l (i+1)) else none
def partnerZ:Option Nat→Int
  | some j=>j
  | none=>-1
set_option maxRecDepth 100000 in
set_option maxHeartbeats 4000000 in
theorem rpartner_any (s:ByteArray) (i:Nat) (w:World) (hs:s.size≤1099511627776) (hi:i < s.size) :
    Calls Tryz.prog 103 #[.string s,.int .i64 i] w fun e w'=>e=.returned (.int .i64 (partnerZ (partnerS s.data.toList i)))∧w'=w:=by
  have hl:=ba_len s
  obtain ⟨P,hP⟩:∃ P,pfrom s.data.toList (i+1)=P:=⟨_,rfl⟩
  have HZ:Hid (partnerZ (partnerS s.data.toList i)=if P < s.size∧P ≠ i+1∧s.data.toList[i+1]?.map bl3=some false∧s.data.toList[P - 1]?.map bl3=some false then (P:Int) else -1):=by
    show _=_
    rw [partnerS,hP,hl]
    split <;> rfl
  have HP:Hid (pfrom s.data.toList (i+1)=P):=hP
  clear hP
  generalize partnerZ (partnerS s.data.toList i)=Z at HZ ⊢
  go_enter Tryz.func103,Tryz.ntmps103
  go_wp2
  go_loop [5] (fun v=>∃ j:Nat,i+1≤j∧j≤s.size∧v=.int .i64 j∧Hid (pfrom s.data.toList j=P)) (fun v=>s.size - (intOf v).toNat)
  case atStart=>exact ⟨i+1,Nat.le_refl _,by omega,by go_num,HP⟩
  case round =>
    clear HP
    obtain ⟨j,hj1,hj2,rfl,HJ⟩:=hrel
    by_cases hlt:j < s.size
    · have hat:s.data.toList[j]?=some s[j]:=at_some s j hlt
      have t42:=u8_eq s[j] 42
      have t92:=u8_eq s[j] 92
      have t96:=u8_eq s[j] 96
      by_cases h42:s[j]=42
      · have hPj:P=j:=by rw [← HJ.out];exact pfrom_at _ _ (fun h=>h.2 (by rw [hat,h42]))
        have g42:((s[j].toNat:Int) != 42)=false:=by rw [h42];rfl
        subst hPj
        clear t42 t92 t96 hat h42 HJ
        by_cases he:P=i+1
        · have HN:Hid (Z=-1):=by show _=_;rw [HZ.out,if_neg (fun h=>h.2.1 he)]
          subst he
          clear HZ
          go_wp2
          go_ret
          rw [HN.out]
          exact ⟨rfl,rfl⟩
        · have hne:((P:Int) == (i:Int)+1)=false:=by rw [beq_eq_false_iff_ne];omega
          have hia:i+1 < s.size:=by omega
          have hPm:P - 1 < s.size:=by omega
          have hcast:((P:Int) - 1).toNat=P - 1:=by omega
          have ha:s.data.toList[i+1]?=some s[i+1]:=at_some s (i+1) hia
          have hb:s.data.toList[P - 1]?=some s[P - 1]:=at_some s (P - 1) hPm
          rw [ha,hb] at HZ
          have HZ2:Hid (Z=if bl3 s[i+1]=false∧bl3 s[P - 1]=false then (P:Int) else -1):=by
            show _=_
            rw [HZ.out]
            simp [hlt,he]
          have ta:bl3 s[i+1]=(((s[i+1].toNat:Int) == 32) || ((s[i+1].toNat:Int) == 9) || ((s[i+1].toNat:Int) == 10)):=by
            have k1:=u8_eq s[i+1] 32
            have k2:=u8_eq s[i+1] 9
            have k3:=u8_eq s[i+1] 10
            unfold bl3
            rw [← k1,← k2,← k3]
            rfl
          have tb:bl3 s[P - 1]=(((s[P - 1].toNat:Int) == 32) || ((s[P - 1].toNat:Int) == 9) || ((s[P - 1].toNat:Int) == 10)):=by
            have k1:=u8_eq s[P - 1] 32
            have k2:=u8_eq s[P - 1] 9
            have k3:=u8_eq s[P - 1] 10
            unfold bl3
            rw [← k1,← k2,← k3]
            rfl
          rw [ta,tb] at HZ2
          clear HZ ha hb ta tb
          cases a32:((s[i+1].toNat:Int) == 32) with
          | true =>
            have HN:Hid (Z=-1):=by show _=_;rw [HZ2.out,a32];simp
            clear HZ2
            go_wp2
            go_ret
            rw [HN.out]
            exact ⟨rfl,rfl⟩
          | false =>
            cases a9:((s[i+1].toNat:Int) == 9) with
            | true =>
              have HN:Hid (Z=-1):=by show _=_;rw [HZ2.out,a9];simp
              clear HZ2
              go_wp2
              go_ret
              rw [HN.out]
              exact ⟨rfl,rfl⟩
            | false =>
              cases a10:((s[i+1].toNat:Int) == 10) with
              | true =>
                have HN:Hid (Z=-1):=by show _=_;rw [HZ2.out,a10];simp
                clear HZ2
                go_wp2
                go_ret
                rw [HN.out]
                exact ⟨rfl,rfl⟩
              | false =>
                cases b32:((s[P - 1].toNat:Int) == 32) with
                | true =>
                  have HN:Hid (Z=-1):=by show _=_;rw [HZ2.out,b32];simp
                  clear HZ2
                  go_wp2
                  go_ret
                  rw [HN.out]
                  exact ⟨rfl,rfl⟩
                | false =>
                  cases b9:((s[P - 1].toNat:Int) == 9) with
                  | true =>
                    have HN:Hid (Z=-1):=by show _=_;rw [HZ2.out,b9];simp
                    clear HZ2
                    go_wp2
                    go_ret
                    rw [HN.out]
                    exact ⟨rfl,rfl⟩
                  | false =>
                    cases b10:((s[P - 1].toNat:Int) == 10) with
                    | true =>
                      have HN:Hid (Z=-1):=by show _=_;rw [HZ2.out,b10];simp
                      clear HZ2
                      go_wp2
                      go_ret
                      rw [HN.out]
                      exact ⟨rfl,rfl⟩
                    | false =>
                      have HN:Hid (Z=P):=by show _=_;rw [HZ2.out,a32,a9,a10,b32,b9,b10];rfl
                      clear HZ2
                      go_wp2
                      go_ret
                      rw [HN.out]
                      exact ⟨rfl,rfl⟩
      · have g42:((s[j].toNat:Int) != 42)=true:=by
          rw [bne,show ((s[j].toNat:Int) == 42)=(s[j] == 42) from t42,beq_eq_false_iff_ne.2 h42]
          rfl
        have HG:Hid (pfrom s.data.toList (pnext s.data.toList j)=P):=by
          show _=_
          rw [← HJ.out]
          exact (pfrom_go _ _ (by omega) (by rw [hat];intro h;exact h42 (Option.some.inj h))).symm
        have c1:=fun W=>rfind_any s 96 (j+1) W (by omega) (by omega)
        have e96:((96:UInt8).toNat:Int)=96:=rfl
        have en:((j+1:Nat):Int)=(j:Int)+1:=by omega
        rw [e96,en] at c1
        by_cases h96:s[j]=96
        · have g96:((s[j].toNat:Int) == 96)=true:=by rw [h96];rfl
          have g92:((s[j].toNat:Int) == 92)=false:=by rw [h96];rfl
          by_cases hk:nextAt s.data.toList 96 (j+1) < s.size
          · have hF:foundZ s.data.toList 96 (j+1)=(nextAt s.data.toList 96 (j+1):Int):=by rw [foundZ,hl,if_pos hk]
            have hp:pnext s.data.toList j=nextAt s.data.toList 96 (j+1)+1:=by rw [pnext,hl,if_pos ⟨by rw [hat,h96],hk⟩]
            have hge:=next_ge s.data.toList 96 (j+1)
            rw [hF] at c1
            rw [hp] at HG
            generalize nextAt s.data.toList 96 (j+1)=k at c1 HG hk hge
            clear hF hp t42 t92 t96 hat h42 h96 HJ HZ
            go_wp2_with (go_at_call 94;refine (c1 _).mono ?_;rintro e w' ⟨rfl,hw⟩;rw [hw];clear hw)
            go_round
            case rel=>exact ⟨k+1,by omega,by omega,by go_num,HG⟩
            case measure=>simp [intOf];omega
          · have hF:foundZ s.data.toList 96 (j+1)=-1:=by rw [foundZ,hl,if_neg hk]
            have hp:pnext s.data.toList j=j+1:=by rw [pnext,hl,if_neg (fun h=>hk h.2),if_neg (fun h=>by have:=h.1;rw [hat,h96] at this;simp at this)]
            rw [hF] at c1
            rw [hp] at HG
            clear hF hp t42 t92 t96 hat h42 h96 HJ HZ hk
            go_wp2_with (go_at_call 94;refine (c1 _).mono ?_;rintro e w' ⟨rfl,hw⟩;rw [hw];clear hw)
            go_round
            case rel=>exact ⟨j+1,by omega,by omega,by go_num,HG⟩
            case measure=>simp [intOf];omega
        · have g96:((s[j].toNat:Int) == 96)=false:=by rw [show ((s[j].toNat:Int) == 96)=(s[j] == 96) from t96,beq_eq_false_iff_ne.2 h96]
          have hp0:pnext s.data.toList j=if s.data.toList[j]?=some 92∧(s.data.toList[j+1]?.map fun c=>signS c || c == 10)=some true then j+2 else j+1:=by
            rw [pnext,if_neg (fun h=>h96 (by have:=h.1;rw [hat] at this;exact Option.some.inj this))]
          generalize foundZ s.data.toList 96 (j+1)=zk at c1
          by_cases h92:s[j]=92
          · have g92:((s[j].toNat:Int) == 92)=true:=by rw [h92];rfl
            by_cases hn:j+1 < s.size
            · have hat1:s.data.toList[j+1]?=some s[j+1]:=at_some s (j+1) hn
              have c2:=fun W=>rsign_any s[j+1] W
              have t10:=u8_eq s[j+1] 10
              have hp1:pnext s.data.toList j=if (signS s[j+1] || s[j+1] == 10)=true then j+2 else j+1:=by
                rw [hp0,hat,h92,hat1]
                simp
              cases y1:signS s[j+1] with
              | true =>
                have hp:pnext s.data.toList j=j+2:=by rw [hp1,y1];rfl
                rw [y1] at c2
                rw [hp] at HG
                clear hp hp0 hp1 t42 t92 t96 hat h42 h96 HJ HZ t10 hat1 h92
                go_wp2_with (first | (go_at_call 94;refine (c1 _).mono ?_;rintro e w' ⟨rfl,hw⟩;rw [hw];clear hw) | (go_at_call 100;refine (c2 _).mono ?_;rintro e w' ⟨rfl,hw⟩;rw [hw];clear hw))
                go_round
                case rel=>exact ⟨j+2,by omega,by omega,by go_num,HG⟩
                case measure=>simp [intOf];omega
              | false =>
                rw [y1] at c2
                cases y2:(s[j+1] == 10) with
                | true =>
                  have hp:pnext s.data.toList j=j+2:=by rw [hp1,y1,y2];rfl
                  rw [y2] at t10
                  replace t10:((s[j+1].toNat:Int) == 10)=true:=t10
                  rw [hp] at HG
                  clear hp hp0 hp1 t42 t92 t96 hat h42 h96 HJ HZ hat1 h92 y2
                  go_wp2_with (first | (go_at_call 94;refine (c1 _).mono ?_;rintro e w' ⟨rfl,hw⟩;rw [hw];clear hw) | (go_at_call 100;refine (c2 _).mono ?_;rintro e w' ⟨rfl,hw⟩;rw [hw];clear hw))
                  go_round
                  case rel=>exact ⟨j+2,by omega,by omega,by go_num,HG⟩
                  case measure=>simp [intOf];omega
                | false =>
                  have hp:pnext s.data.toList j=j+1:=by rw [hp1,y1,y2];rfl
                  rw [y2] at t10
                  replace t10:((s[j+1].toNat:Int) == 10)=false:=t10
                  rw [hp] at HG
                  clear hp hp0 hp1 t42 t92 t96 hat h42 h96 HJ HZ hat1 h92 y2
                  go_wp2_with (first | (go_at_call 94;refine (c1 _).mono ?_;rintro e w' ⟨rfl,hw⟩;rw [hw];clear hw) | (go_at_call 100;refine (c2 _).mono ?_;rintro e w' ⟨rfl,hw⟩;rw [hw];clear hw))
                  go_round
                  case rel=>exact ⟨j+1,by omega,by omega,by go_num,HG⟩
                  case measure=>simp [intOf];omega
            · have hp:pnext s.data.toList j=j+1:=by rw [hp0,at_none s (j+1) hn];simp
              rw [hp] at HG
              clear hp hp0 t42 t92 t96 hat h42 h96 HJ HZ h92
              go_wp2_with (go_at_call 94;refine (c1 _).mono ?_;rintro e w' ⟨rfl,hw⟩;rw [hw];clear hw)
              go_round
              case rel=>exact ⟨j+1,by omega,by omega,by go_num,HG⟩
              case measure=>simp [intOf];omega
          · have g92:((s[j].toNat:Int) == 92)=false:=by rw [show ((s[j].toNat:Int) == 92)=(s[j] == 92) from t92,beq_eq_false_iff_ne.2 h92]
            have hp:pnext s.data.toList j=j+1:=by rw [hp0,if_neg (fun h=>h92 (by have:=h.1;rw [hat] at this;exact Option.some.inj this))]
            rw [hp] at HG
            clear hp hp0 t42 t92 t96 hat h42 h96 HJ HZ h92
            go_wp2_with (go_at_call 94;refine (c1 _).mono ?_;rintro e w' ⟨rfl,hw⟩;rw [hw];clear hw)
            go_round
            case rel=>exact ⟨j+1,by omega,by omega,by go_num,HG⟩
            case measure=>simp [intOf];omega
    · have hPj:P=j:=by rw [← HJ.out];exact pfrom_at _ _ (fun h=>by omega)
      have HN:Hid (Z=-1):=by show _=_;rw [HZ.out,if_neg (fun h=>by omega)]
      clear HZ HJ
      go_wp2
      go_ret
      rw [HN.out]
      exact ⟨rfl,rfl⟩
end Go.Proofs.YtljcljipppjnoaaGreatDoor
namespace Go.Proofs.YtljcljipppjnoaaGreatDoor
open Go.RowKit
def cut (l:List UInt8) (a b:Nat):List UInt8:=(l.drop a).take (b - a)
theorem ba_cut (s:ByteArray) (a b:Nat):s.extract a b=⟨(cut s.data.toList a b).toArray⟩:=by
  apply ByteArray.ext
  apply Array.ext'
  rw [Lib.extract_data]
  rfl
theorem cut_len (l:List UInt8) (a b:Nat) (h:b≤l.length):(cut l a b).length=b - a:=by
  rw [cut,List.length_take,List.length_drop]
  omega
def oneS (inner:List UInt8→Bool→List Ev) (l:List UInt8) (i:Nat) (ins:Bool):List Ev × Nat :=
  if l[i]?=some 92 then
    if l[i+1]?=some 10 then ([⟨11,false,0,[]⟩],2)
    else if l[i+1]?.map signS=some true then ([⟨8,false,0,cut l (i+1) (i+2)⟩],2) else ([],0)
  else if l[i]?=some 10 then ([⟨10,false,0,[]⟩],1)
  else if l[i]?=some 96 then
    if nextAt l 96 (i+1) < l.length then ([⟨9,false,0,spacedL (cut l (i+1) (nextAt l 96 (i+1)))⟩],nextAt l 96 (i+1)+1 - i) else ([],0)
  else if l[i]?=some 91 then
    match linkS l i with
    | some x=>([⟨7,false,0,cut l (x.1+2) x.2⟩]++inner (cut l (i+1) x.1) ins++[⟨7,true,0,[]⟩],x.2+1 - i)
    | none=>([],0)
  else if l[i]?=some 42 then
    if ins=true then ([],0) else
    match partnerS l i with
    | some j=>([⟨6,false,0,[]⟩]++inner (cut l (i+1) j) true++[⟨6,true,0,[]⟩],j+1 - i)
    | none=>([],0)
  else ([],0)
theorem link_facts (l:List UInt8) (i:Nat) (x:Nat × Nat) (h:linkS l i=some x) (h91:l[i]?=some 91):i+1≤x.1∧x.1+2≤x.2∧x.2 < l.length:=by
  unfold linkS at h
  split at h
  · next hc =>
    cases h
    have hi:i < l.length:=(List.getElem?_eq_some_iff.1 h91).1
    have hv:l[i]=91:=(List.getElem?_eq_some_iff.1 h91).2
    have h1:=next_lt l 93 i hi (by rw [hv];rfl)
    have h2:=next_ge l 93 (i+1)
    have h3:=stop_ge l (nextAt l 93 i+2)
    have h4:=(List.getElem?_eq_some_iff.1 hc.2.2.2).1
    exact ⟨by simp only;omega,h3,h4⟩
  · cases h
theorem pfrom_ge (l:List UInt8) (j:Nat):j≤pfrom l j:=by
  induction hm:l.length - j using Nat.strongRecOn generalizing j with
  | _ m ih =>
    by_cases h:j < l.length∧l[j]? ≠ some 42
    · have h1:=pnext_gt l j
      have h2:=ih (l.length - pnext l j) (by omega) (pnext l j) rfl
      rw [pfrom_go l j h.1 h.2]
      omega
    · rw [pfrom_at l j h]
      exact Nat.le_refl _
theorem partner_facts (l:List UInt8) (i j:Nat) (h:partnerS l i=some j):i+2≤j∧j < l.length:=by
  unfold partnerS at h
  split at h
  · next hc =>
    cases h
    have:=pfrom_ge l (i+1)
    exact ⟨by omega,hc.1⟩
  · cases h
theorem one_facts (inner:List UInt8→Bool→List Ev) (hfl:∀ l ins,(inner l ins).length≤2 * l.length) (l:List UInt8) (i:Nat) (hi:i < l.length) (ins:Bool) :
    (oneS inner l i ins).1.length≤2 * (oneS inner l i ins).2∧i+(oneS inner l i ins).2≤l.length:=by
  unfold oneS
  split
  · split
    · next h=>have:=(List.getElem?_eq_some_iff.1 h).1;exact ⟨by simp,by simp only;omega⟩
    · split
      · next h =>
        have:i+1 < l.length:=by
          cases hc:l[i+1]? with
          | none=>rw [hc] at h;cases h
          | some c=>exact (List.getElem?_eq_some_iff.1 hc).1
        exact ⟨by simp,by simp only;omega⟩
      · exact ⟨by simp,by simp only;omega⟩
  split
  · exact ⟨by simp,by simp only;omega⟩
  split
  · have:=next_ge l 96 (i+1)
    split
    · exact ⟨by simp;omega,by simp only;omega⟩
    · exact ⟨by simp,by simp only;omega⟩
  split
  · next h91 =>
    cases hl:linkS l i with
    | none=>exact ⟨by simp,by simp only;omega⟩
    | some x =>
      obtain ⟨a1,a2,a3⟩:=link_facts l i x hl h91
      have h1:=hfl (cut l (i+1) x.1) ins
      rw [cut_len l (i+1) x.1 (by omega)] at h1
      exact ⟨by simp;omega,by simp only;omega⟩
  split
  · split
    · exact ⟨by simp,by simp only;omega⟩
    · cases hp:partnerS l i with
      | none=>exact ⟨by simp,by simp only;omega⟩
      | some j =>
        obtain ⟨a1,a2⟩:=partner_facts l i j hp
        have h1:=hfl (cut l (i+1) j) true
        rw [cut_len l (i+1) j (by omega)] at h1
        exact ⟨by simp;omega,by simp only;omega⟩
  · exact ⟨by simp,by simp only;omega⟩
def InlC (N:Nat) (f:List UInt8→Bool→List Ev):Prop :=
  ∀ (s:ByteArray) (ins:Bool) (w:World),s.size < N→s.size≤1073741824→Calls Tryz.prog 57 #[.string s,.bool ins] w fun e w'=>∃ v,e=.returned v∧w'.ownsRow w.heap.size 83 4 v (f s.data.toList ins).length (evCs (f s.data.toList ins))∧Below w.heap.size w w'
set_option maxRecDepth 100000 in
set_option maxHeartbeats 4000000 in
theorem rone_any (f:List UInt8→Bool→List Ev) (N:Nat) (hC:InlC N f) (hfl:∀ l ins,(f l ins).length≤2 * l.length) (s:ByteArray) (i:Nat) (ins:Bool) (w:World) (hN:s.size≤N) (hs:s.size≤1073741824) (hi:i < s.size) (X:List Ev × Nat) (hX:oneS f s.data.toList i ins=X) :
    Calls Tryz.prog 79 #[.string s,.int .i64 i,.bool ins] w fun e w'=>∃ v,e=.returned (.tuple #[v,.int .i64 X.2])∧w'.ownsRow w.heap.size 83 4 v X.1.length (evCs X.1)∧Below w.heap.size w w':=by
  have hl:=ba_len s
  obtain ⟨j0,hj,hy0,hy1,hy2⟩:=info_parts Tryz.infoEv
  have hat:s.data.toList[i]?=some s[i]:=at_some s i hi
  unfold oneS at hX
  rw [hat] at hX
  have oN:w.ownsRow w.heap.size 83 4 (.slice none 0 0) 0 (evCs []):=by simpa [evCs] using World.ownsRow_nil w w.heap.size 83 4
  by_cases h92:s[i]=92
  · rw [if_pos (by rw [h92])] at hX
    have g92:((s[i].toNat:Int) == 92)=true:=by rw [h92];rfl
    by_cases h1:i+1 < s.size
    · have hat1:s.data.toList[i+1]?=some s[i+1]:=at_some s (i+1) h1
      rw [hat1] at hX
      have c2:=fun W=>rsign_any s[i+1] W
      by_cases hb:s[i+1]=10
      · rw [if_pos (by rw [hb])] at hX
        have gb:((s[i+1].toNat:Int) == 10)=true:=by rw [hb];rfl
        have oL:=own_lit w ⟨11,false,0,[]⟩ 83
        subst hX
        clear hat h92 hb hat1 c2
        go_enter Tryz.func79,Tryz.ntmps79
        go_wp2
        go_ret2
        exact ⟨_,rfl,oL,(Below.refl _ w).alloc (Nat.le_refl _) _⟩
      · rw [if_neg (fun h=>hb (Option.some.inj h))] at hX
        have gb:((s[i+1].toNat:Int) == 10)=false:=(u8_eq s[i+1] 10).trans (beq_eq_false_iff_ne.2 hb)
        cases y:signS s[i+1] with
        | true =>
          rw [if_pos (by rw [Option.map_some,y])] at hX
          rw [y] at c2
          have hcut:=ba_cut s (i+1) (i+2)
          have oL:=own_lit w ⟨8,false,0,cut s.data.toList (i+1) (i+2)⟩ 83
          subst hX
          have HO:Hid ((w.alloc (.cells #[.int .i64 8,.bool false,.int .i64 0,.string (s.extract (i+1) (i+2))] 83)).ownsRow w.heap.size 83 4 (.slice (some ⟨w.heap.size,0,none⟩) 1 1) 1 (evCs [⟨8,false,0,cut s.data.toList (i+1) (i+2)⟩])):=by
            show World.ownsRow _ _ _ _ _ _ _
            rw [hcut]
            exact oL
          clear hat h92 hb hat1 hcut oL
          go_enter Tryz.func79,Tryz.ntmps79
          go_wp2_with (go_at_call 100;refine (c2 _).mono ?_;rintro e w' ⟨rfl,hw⟩;rw [hw];clear hw)
          go_ret2
          exact ⟨_,rfl,HO.out,(Below.refl _ w).alloc (Nat.le_refl _) _⟩
        | false =>
          rw [if_neg (by rw [Option.map_some,y];simp)] at hX
          rw [y] at c2
          subst hX
          clear hat h92 hb hat1
          go_enter Tryz.func79,Tryz.ntmps79
          go_wp2_with (go_at_call 100;refine (c2 _).mono ?_;rintro e w' ⟨rfl,hw⟩;rw [hw];clear hw)
          go_ret2
          exact ⟨_,rfl,oN,Below.refl _ _⟩
    · rw [at_none s (i+1) h1,if_neg (by simp),if_neg (by simp)] at hX
      subst hX
      clear hat h92
      go_enter Tryz.func79,Tryz.ntmps79
      go_wp2
      go_ret2
      exact ⟨_,rfl,oN,Below.refl _ _⟩
  rw [if_neg (fun h=>h92 (Option.some.inj h))] at hX
  have g92:((s[i].toNat:Int) == 92)=false:=(u8_eq s[i] 92).trans (beq_eq_false_iff_ne.2 h92)
  by_cases h10:s[i]=10
  · rw [if_pos (by rw [h10])] at hX
    have g10:((s[i].toNat:Int) == 10)=true:=by rw [h10];rfl
    have oL:=own_lit w ⟨10,false,0,[]⟩ 83
    subst hX
    clear hat h92 h10
    go_enter Tryz.func79,Tryz.ntmps79
    go_wp2
    go_ret2
    exact ⟨_,rfl,oL,(Below.refl _ w).alloc (Nat.le_refl _) _⟩
  rw [if_neg (fun h=>h10 (Option.some.inj h))] at hX
  have g10:((s[i].toNat:Int) == 10)=false:=(u8_eq s[i] 10).trans (beq_eq_false_iff_ne.2 h10)
  by_cases h96:s[i]=96
  · rw [if_pos (by rw [h96])] at hX
    have g96:((s[i].toNat:Int) == 96)=true:=by rw [h96];rfl
    have c1:=fun W=>rfind_any s 96 (i+1) W (by omega) (by omega)
    have e96:((96:UInt8).toNat:Int)=96:=rfl
    have en:((i+1:Nat):Int)=(i:Int)+1:=by omega
    rw [e96,en] at c1
    by_cases hk:nextAt s.data.toList 96 (i+1) < s.size
    · rw [hl,if_pos hk] at hX
      have hF:foundZ s.data.toList 96 (i+1)=(nextAt s.data.toList 96 (i+1):Int):=by rw [foundZ,hl,if_pos hk]
      have hge:=next_ge s.data.toList 96 (i+1)
      rw [hF] at c1
      generalize nextAt s.data.toList 96 (i+1)=k at c1 hX hk hge
      have hcut:=ba_cut s (i+1) k
      have c2:=fun W=>rspaced_any (s.extract (i+1) k) W (by simp;omega)
      have hce:(s.extract (i+1) k).data.toList=cut s.data.toList (i+1) k:=by rw [hcut]
      rw [hce] at c2
      have oL:=own_lit w ⟨9,false,0,spacedL (cut s.data.toList (i+1) k)⟩ 83
      subst hX
      generalize spacedL (cut s.data.toList (i+1) k)=sp at c2 oL ⊢
      clear hat h92 h10 h96 hcut hce hF
      go_enter Tryz.func79,Tryz.ntmps79
      go_wp2_with (first | (go_at_call 94;refine (c1 _).mono ?_;rintro e w' ⟨rfl,hw⟩;rw [hw];clear hw) | (go_at_call 101;refine (c2 _).mono ?_;rintro e w' ⟨rfl,hw⟩;rw [hw];clear hw))
      go_ret2
      exact ⟨_,(by go_num),oL,(Below.refl _ w).alloc (Nat.le_refl _) _⟩
    · rw [hl,if_neg hk] at hX
      have hF:foundZ s.data.toList 96 (i+1)=-1:=by rw [foundZ,hl,if_neg hk]
      rw [hF] at c1
      subst hX
      clear hat h92 h10 h96 hF hk
      go_enter Tryz.func79,Tryz.ntmps79
      go_wp2_with (go_at_call 94;refine (c1 _).mono ?_;rintro e w' ⟨rfl,hw⟩;rw [hw];clear hw)
      go_ret2
      exact ⟨_,rfl,oN,Below.refl _ _⟩
  rw [if_neg (fun h=>h96 (Option.some.inj h))] at hX
  have g96:((s[i].toNat:Int) == 96)=false:=(u8_eq s[i] 96).trans (beq_eq_false_iff_ne.2 h96)
  by_cases h91:s[i]=91
  · rw [if_pos (by rw [h91])] at hX
    have g91:((s[i].toNat:Int) == 91)=true:=by rw [h91];rfl
    have c1:=fun W=>rlink_any s i W (by omega) hi
    cases hk:linkS s.data.toList i with
    | none =>
      rw [hk] at hX c1
      have hX2:X=([],0):=hX.symm
      subst hX2
      unfold linkV at c1
      clear hat h92 h10 h96 h91 hk hX
      go_enter Tryz.func79,Tryz.ntmps79
      go_wp2_with (go_at_call 102;refine (c1 _).mono ?_;rintro e w' ⟨rfl,hw⟩;rw [hw];clear hw)
      go_ret2
      exact ⟨_,rfl,oN,Below.refl _ _⟩
    | some x =>
      obtain ⟨a1,a2,a3⟩:=link_facts s.data.toList i x hk (by rw [hat,h91])
      rw [hk] at hX c1
      obtain ⟨xj,xe⟩:=x
      simp only at a1 a2 a3 hX
      rw [hl] at a3
      unfold linkV at c1
      have hp:=hC (s.extract (i+1) xj) ins
      have hce:(s.extract (i+1) xj).data.toList=cut s.data.toList (i+1) xj:=by rw [ba_cut]
      have hpz:(s.extract (i+1) xj).size=xj - (i+1):=by simp;omega
      rw [hce] at hp
      have c2:=fun W=>hp W (by omega) (by omega)
      have hfb:=hfl (cut s.data.toList (i+1) xj) ins
      rw [cut_len _ _ _ (by omega)] at hfb
      have hct:=ba_cut s (xj+2) xe
      have hA:X.1=[⟨7,false,0,cut s.data.toList (xj+2) xe⟩]++f (cut s.data.toList (i+1) xj) ins++[⟨7,true,0,[]⟩]:=by rw [← hX]
      have hB:X.2=xe+1 - i:=by rw [← hX]
      have HX1:Hid (X.1.length=1+(f (cut s.data.toList (i+1) xj) ins).length+1∧evCs X.1=evCs [⟨7,false,0,cut s.data.toList (xj+2) xe⟩]++(evCs (f (cut s.data.toList (i+1) xj) ins)++evCells ⟨7,true,0,[]⟩)):=by
        rw [hA]
        exact ⟨by simp;omega,by rw [evCs_append,evCs_append,evCs_one ⟨7,true,0,[]⟩,List.append_assoc]⟩
      have HL:Hid (∀ w1:World,w.heap.size≤w1.heap.size→(w1.alloc (.cells #[.int .i64 7,.bool false,.int .i64 0,.string (s.extract (xj+2) xe)] 83)).ownsRow w.heap.size 83 4 (.slice (some ⟨w1.heap.size,0,none⟩) 1 1) 1 (evCs [⟨7,false,0,cut s.data.toList (xj+2) xe⟩])):=by
        intro w1 h1
        rw [hct]
        exact Joins.ownsRow_le (own_lit w1 ⟨7,false,0,cut s.data.toList (xj+2) xe⟩ 83) h1
      have hez:((xe+1 - i:Nat):Int)=(xe:Int)+1 - (i:Int):=by omega
      have HE:Hid (∀ v:Value,Ending.returned (.tuple #[v,.int .i64 ((xe:Int)+1 - (i:Int))])=Ending.returned (.tuple #[v,.int .i64 X.2])):=fun v=>by rw [hB,hez]
      generalize cut s.data.toList (xj+2) xe=tx at HL HX1
      generalize f (cut s.data.toList (i+1) xj) ins=fi at c2 hfb HX1
      clear hat h92 h10 h96 h91 hk hX hce hp hct hA hB hez
      go_enter Tryz.func79,Tryz.ntmps79
      go_wp2_with (first | (go_at_call 102;refine (c1 _).mono ?_;rintro e w' ⟨rfl,hw⟩;rw [hw];clear hw) | (go_at_call 57;refine (c2 _).mono ?_;rintro e w1 ⟨vb,rfl,ownb,belb⟩;have s1:=belb.size) | (at_builtin;refine wpList_append_row _ rfl _ _ 27 rfl w.heap.size w.heap.size 83 j0 (.agg #[.int .i64 0,.bool false,.int .i64 0,.string ⟨#[]⟩]) 4 40 Tryz.underlying27 hj hy0 hy1 hy2 rfl (by decide) _ 1 (evCs [⟨7,false,0,tx⟩]) rfl (HL.out w1 s1) _ _ _ rfl (ownb.alloc _) (evCs_one' _) ?c3 ?c4 ?c5 ?_))
      case c3=>unfold maxLen;omega
      case c4=>omega
      case c5=>simp;omega
      intro v2 w2 own2 grow2
      have b2:Below w.heap.size w w2:=(belb.alloc s1 _).grown grow2 (by simp;omega) (fun b hb=>(HL.out w1 s1).lt b hb |>.1)
      have z2:=b2.size
      go_wp2_with (at_builtin;refine wpList_append_own _ rfl _ _ 27 rfl w.heap.size 83 j0 (.agg #[.int .i64 0,.bool false,.int .i64 0,.string ⟨#[]⟩]) 4 40 Tryz.underlying27 hj hy0 hy1 hy2 rfl (by decide) _ _ _ rfl (own2.alloc _) ⟨w2.heap.size,0,none⟩ 1 1 (evCells ⟨7,true,0,[]⟩) rfl rfl (ev_cell _ _ _ (by simp)) (ev_one _) (by unfold maxLen;omega) (by omega) (by simp;omega) ?_;intro v3 w3 own3 grow3 _)
      go_ret2
      refine ⟨v3,HE.out v3,?_,(b2.alloc z2 _).grown grow3 (by simp;omega) (fun b hb=>(own2.lt b hb).1)⟩
      rw [HX1.out.1,HX1.out.2]
      first | exact own3 | (simpa only [List.append_assoc] using own3)
  rw [if_neg (fun h=>h91 (Option.some.inj h))] at hX
  have g91:((s[i].toNat:Int) == 91)=false:=(u8_eq s[i] 91).trans (beq_eq_false_iff_ne.2 h91)
  by_cases h42:s[i]=42
  · rw [if_pos (by rw [h42])] at hX
    have g42:((s[i].toNat:Int) == 42)=true:=by rw [h42];rfl
    cases ins with
    | true =>
      rw [if_pos rfl] at hX
      subst hX
      clear hat h92 h10 h96 h91 h42
      go_enter Tryz.func79,Tryz.ntmps79
      go_wp2
      go_ret2
      exact ⟨_,rfl,oN,Below.refl _ _⟩
    | false =>
    rw [if_neg (by simp)] at hX
    have c1:=fun W=>rpartner_any s i W (by omega) hi
    cases hk:partnerS s.data.toList i with
    | none =>
      rw [hk] at hX c1
      have hX2:X=([],0):=hX.symm
      subst hX2
      unfold partnerZ at c1
      clear hat h92 h10 h96 h91 h42 hk hX
      go_enter Tryz.func79,Tryz.ntmps79
      go_wp2_with (go_at_call 103;refine (c1 _).mono ?_;rintro e w' ⟨rfl,hw⟩;rw [hw];clear hw)
      go_ret2
      exact ⟨_,rfl,oN,Below.refl _ _⟩
    | some xj =>
      obtain ⟨a1,a2⟩:=partner_facts s.data.toList i xj hk
      rw [hk] at hX c1
      rw [hl] at a2
      unfold partnerZ at c1
      simp only at c1 hX
      have hp:=hC (s.extract (i+1) xj) true
      have hce:(s.extract (i+1) xj).data.toList=cut s.data.toList (i+1) xj:=by rw [ba_cut]
      have hpz:(s.extract (i+1) xj).size=xj - (i+1):=by simp;omega
      rw [hce] at hp
      have c2:=fun W=>hp W (by omega) (by omega)
      have hfb:=hfl (cut s.data.toList (i+1) xj) true
      rw [cut_len _ _ _ (by omega)] at hfb
      have hA:X.1=[⟨6,false,0,[]⟩]++f (cut s.data.toList (i+1) xj) true++[⟨6,true,0,[]⟩]:=by rw [← hX]
      have hB:X.2=xj+1 - i:=by rw [← hX]
      have HX1:Hid (X.1.length=1+(f (cut s.data.toList (i+1) xj) true).length+1∧evCs X.1=evCs [⟨6,false,0,[]⟩]++(evCs (f (cut s.data.toList (i+1) xj) true)++evCells ⟨6,true,0,[]⟩)):=by
        rw [hA]
        exact ⟨by simp;omega,by rw [evCs_append,evCs_append,evCs_one ⟨6,true,0,[]⟩,List.append_assoc]⟩
      have HL:Hid (∀ w1:World,w.heap.size≤w1.heap.size→(w1.alloc (.cells #[.int .i64 6,.bool false,.int .i64 0,.string ⟨#[]⟩] 83)).ownsRow w.heap.size 83 4 (.slice (some ⟨w1.heap.size,0,none⟩) 1 1) 1 (evCs [⟨6,false,0,[]⟩])):=fun w1 h1=>Joins.ownsRow_le (own_lit w1 ⟨6,false,0,[]⟩ 83) h1
      have hez:((xj+1 - i:Nat):Int)=(xj:Int)+1 - (i:Int):=by omega
      have HE:Hid (∀ v:Value,Ending.returned (.tuple #[v,.int .i64 ((xj:Int)+1 - (i:Int))])=Ending.returned (.tuple #[v,.int .i64 X.2])):=fun v=>by rw [hB,hez]
      generalize f (cut s.data.toList (i+1) xj) true=fi at c2 hfb HX1
      clear hat h92 h10 h96 h91 h42 hk hX hce hp hA hB hez
      go_enter Tryz.func79,Tryz.ntmps79
      go_wp2_with (first | (go_at_call 103;refine (c1 _).mono ?_;rintro e w' ⟨rfl,hw⟩;rw [hw];clear hw) | (go_at_call 57;refine (c2 _).mono ?_;rintro e w1 ⟨vb,rfl,ownb,belb⟩;have s1:=belb.size) | (at_builtin;refine wpList_append_row _ rfl _ _ 27 rfl w.heap.size w.heap.size 83 j0 (.agg #[.int .i64 0,.bool false,.int .i64 0,.string ⟨#[]⟩]) 4 40 Tryz.underlying27 hj hy0 hy1 hy2 rfl (by decide) _ 1 (evCs [⟨6,false,0,[]⟩]) rfl (HL.out w1 s1) _ _ _ rfl (ownb.alloc _) (evCs_one' _) ?c3 ?c4 ?c5 ?_))
      case c3=>unfold maxLen;omega
      case c4=>omega
      case c5=>simp;omega
      intro v2 w2 own2 grow2
      have b2:Below w.heap.size w w2:=(belb.alloc s1 _).grown grow2 (by simp;omega) (fun b hb=>(HL.out w1 s1).lt b hb |>.1)
      have z2:=b2.size
      go_wp2_with (at_builtin;refine wpList_append_own _ rfl _ _ 27 rfl w.heap.size 83 j0 (.agg #[.int .i64 0,.bool false,.int .i64 0,.string ⟨#[]⟩]) 4 40 Tryz.underlying27 hj hy0 hy1 hy2 rfl (by decide) _ _ _ rfl (own2.alloc _) ⟨w2.heap.size,0,none⟩ 1 1 (evCells ⟨6,true,0,[]⟩) rfl rfl (ev_cell _ _ _ (by simp)) (ev_one _) (by unfold maxLen;omega) (by omega) (by simp;omega) ?_;intro v3 w3 own3 grow3 _)
      go_ret2
      refine ⟨v3,HE.out v3,?_,(b2.alloc z2 _).grown grow3 (by simp;omega) (fun b hb=>(own2.lt b hb).1)⟩
      rw [HX1.out.1,HX1.out.2]
      first | exact own3 | (simpa only [List.append_assoc] using own3)
  rw [if_neg (fun h=>h42 (Option.some.inj h))] at hX
  have g42:((s[i].toNat:Int) == 42)=false:=(u8_eq s[i] 42).trans (beq_eq_false_iff_ne.2 h42)
  subst hX
  clear hat h92 h10 h96 h91 h42
  go_enter Tryz.func79,Tryz.ntmps79
  go_wp2
  go_ret2
  exact ⟨_,rfl,oN,Below.refl _ _⟩
end Go.Proofs.YtljcljipppjnoaaGreatDoor
namespace Go.Proofs.YtljcljipppjnoaaGreatDoor
open Go.RowKit
def glue (acc m:List Ev):List Ev :=
  match m with
  | [e]=>if e.kind=8 then addS acc e.text else acc++m
  | _=>acc++m
def inlFrom (inner:List UInt8→Bool→List Ev) (l:List UInt8) (ins:Bool) (i:Nat) (acc:List Ev):List Ev :=
  if _h:i < l.length then
    if (oneS inner l i ins).2=0 then inlFrom inner l ins (i+1) (addS acc (cut l i (i+1)))
    else inlFrom inner l ins (i+(oneS inner l i ins).2) (glue acc (oneS inner l i ins).1)
  else acc
termination_by l.length - i
decreasing_by all_goals omega
def inlineF:Nat→List UInt8→Bool→List Ev
  | 0,_,_=>[]
  | f+1,l,ins=>inlFrom (inlineF f) l ins 0 []
def inlineS (l:List UInt8) (ins:Bool):List Ev:=inlineF (l.length+1) l ins
theorem add_len (acc:List Ev) (t:List UInt8):(addS acc t).length≤acc.length+1:=by
  rcases List.eq_nil_or_concat acc with rfl | ⟨pre,e,rfl⟩
  · simp [addS]
  · rw [List.concat_eq_append,add_last]
    split <;> simp
theorem glue_len (acc m:List Ev):(glue acc m).length≤acc.length+m.length:=by
  unfold glue
  split
  · split
    · have:=add_len acc (by assumption:Ev).text
      simp only [List.length_singleton]
      omega
    · simp
  · simp
theorem add_text (acc:List Ev) (t:List UInt8) (a:Nat) (h:∀ e ∈ acc,e.text.length≤a):∀ e ∈ addS acc t,e.text.length≤a+t.length:=by
  rcases List.eq_nil_or_concat acc with rfl | ⟨pre,x,rfl⟩
  · intro e he
    simp [addS] at he
    subst he
    simp
  · rw [List.concat_eq_append] at h ⊢
    rw [add_last]
    have hx:=h x (by simp)
    split
    · intro e he
      rcases List.mem_append.1 he with he | he
      · have:=h e (by simp [he]);omega
      · simp at he
        subst he
        simp
        omega
    · intro e he
      rcases List.mem_append.1 he with he | he
      · have:=h e he;omega
      · simp at he
        subst he
        simp
theorem one_text (inner:List UInt8→Bool→List Ev) (hft:∀ l ins,∀ e ∈ inner l ins,e.text.length≤l.length) (l:List UInt8) (i:Nat) (ins:Bool):∀ e ∈ (oneS inner l i ins).1,e.text.length≤(oneS inner l i ins).2:=by
  have hcl:∀ a b,(cut l a b).length≤b - a:=fun a b=>by rw [cut,List.length_take];omega
  unfold oneS
  split
  · split
    · intro e he;simp at he;subst he;simp
    · split
      · intro e he
        simp at he
        subst he
        have:=hcl (i+1) (i+2)
        simp only
        omega
      · intro e he;simp at he
  split
  · intro e he;simp at he;subst he;simp
  split
  · split
    · intro e he
      simp at he
      subst he
      have:=hcl (i+1) (nextAt l 96 (i+1))
      have:=next_ge l 96 (i+1)
      simp only [spacedL,List.length_map]
      omega
    · intro e he;simp at he
  split
  · next h91 =>
    cases hl:linkS l i with
    | none=>intro e he;simp at he
    | some x =>
      obtain ⟨a1,a2,a3⟩:=link_facts l i x hl h91
      intro e he
      simp only [List.mem_append,List.mem_singleton] at he
      rcases he with (rfl | he) | rfl
      · have:=hcl (x.1+2) x.2
        simp only
        omega
      · have:=hft _ _ e he
        have:=hcl (i+1) x.1
        simp only
        omega
      · simp
  split
  · split
    · intro e he;simp at he
    · cases hp:partnerS l i with
      | none=>intro e he;simp at he
      | some j =>
        obtain ⟨a1,a2⟩:=partner_facts l i j hp
        intro e he
        simp only [List.mem_append,List.mem_singleton] at he
        rcases he with (rfl | he) | rfl
        · simp
        · have:=hft _ _ e he
          have:=hcl (i+1) j
          simp only
          omega
        · simp
  · intro e he;simp at he
theorem glue_text (acc m:List Ev) (a b:Nat) (h:∀ e ∈ acc,e.text.length≤a) (h2:∀ e ∈ m,e.text.length≤b):∀ e ∈ glue acc m,e.text.length≤a+b:=by
  have hap:∀ e ∈ acc++m,e.text.length≤a+b:=by
    intro e he
    rcases List.mem_append.1 he with he | he
    · have:=h e he;omega
    · have:=h2 e he;omega
  unfold glue
  split
  · next x =>
    split
    · intro e he
      have:=add_text acc x.text a h e he
      have:=h2 x (by simp)
      omega
    · exact hap
  · exact hap
theorem inl_facts (inner:List UInt8→Bool→List Ev) (hfl:∀ l ins,(inner l ins).length≤2 * l.length) (hft:∀ l ins,∀ e ∈ inner l ins,e.text.length≤l.length) (l:List UInt8) (ins:Bool) (i:Nat) (acc:List Ev) (hi:i≤l.length) (ht:∀ e ∈ acc,e.text.length≤i) :
    (inlFrom inner l ins i acc).length≤acc.length+2 * (l.length - i)∧∀ e ∈ inlFrom inner l ins i acc,e.text.length≤l.length:=by
  induction hm:l.length - i using Nat.strongRecOn generalizing i acc with
  | _ m ih =>
    rw [inlFrom]
    by_cases h:i < l.length
    · rw [dif_pos h]
      split
      · have h1:=add_len acc (cut l i (i+1))
        have hc:(cut l i (i+1)).length=1:=by rw [cut_len l i (i+1) (by omega)];omega
        have ht2:∀ e ∈ addS acc (cut l i (i+1)),e.text.length≤i+1:=fun e he=>by have:=add_text acc _ i ht e he;omega
        obtain ⟨r1,r2⟩:=ih (l.length - (i+1)) (by omega) (i+1) _ (by omega) ht2 rfl
        exact ⟨by omega,r2⟩
      · next hne =>
        obtain ⟨f1,f2⟩:=one_facts inner hfl l i h ins
        have f3:=one_text inner hft l i ins
        have h1:=glue_len acc (oneS inner l i ins).1
        obtain ⟨r1,r2⟩:=ih (l.length - (i+(oneS inner l i ins).2)) (by omega) (i+(oneS inner l i ins).2) _ f2 (glue_text acc _ i _ ht f3) rfl
        exact ⟨by omega,r2⟩
    · rw [dif_neg h]
      exact ⟨by omega,fun e he=>by have:=ht e he;omega⟩
theorem inlF_facts (f:Nat):(∀ l ins,(inlineF f l ins).length≤2 * l.length)∧∀ l ins,∀ e ∈ inlineF f l ins,e.text.length≤l.length:=by
  induction f with
  | zero=>exact ⟨fun l ins=>by simp [inlineF],fun l ins e he=>by simp [inlineF] at he⟩
  | succ f ih =>
    refine ⟨fun l ins=>?_,fun l ins e he=>?_⟩
    · have:=(inl_facts (inlineF f) ih.1 ih.2 l ins 0 [] (Nat.zero_le _) (fun e he=>by cases he)).1
      simpa [inlineF] using this
    · exact (inl_facts (inlineF f) ih.1 ih.2 l ins 0 [] (Nat.zero_le _) (fun e he=>by cases he)).2 e he
theorem one_congr (p q:List UInt8→Bool→List Ev) (l:List UInt8) (i:Nat) (ins:Bool) (h:∀ m b,m.length < l.length→p m b=q m b):oneS p l i ins=oneS q l i ins:=by
  unfold oneS
  by_cases c1:l[i]?=some 92
  · rw [if_pos c1,if_pos c1]
  rw [if_neg c1,if_neg c1]
  by_cases c2:l[i]?=some 10
  · rw [if_pos c2,if_pos c2]
  rw [if_neg c2,if_neg c2]
  by_cases c3:l[i]?=some 96
  · rw [if_pos c3,if_pos c3]
  rw [if_neg c3,if_neg c3]
  by_cases c4:l[i]?=some 91
  · rw [if_pos c4,if_pos c4]
    cases hl:linkS l i with
    | none=>rfl
    | some x =>
      obtain ⟨a1,a2,a3⟩:=link_facts l i x hl c4
      simp only
      rw [h (cut l (i+1) x.1) ins (by rw [cut_len _ _ _ (by omega)];omega)]
  rw [if_neg c4,if_neg c4]
  by_cases c5:l[i]?=some 42
  · rw [if_pos c5,if_pos c5]
    cases ins with
    | true=>rfl
    | false =>
      cases hp:partnerS l i with
      | none=>rfl
      | some j =>
        obtain ⟨b1,b2⟩:=partner_facts l i j hp
        simp only
        rw [h (cut l (i+1) j) true (by rw [cut_len _ _ _ (by omega)];omega)]
  rw [if_neg c5,if_neg c5]
theorem inl_congr (p q:List UInt8→Bool→List Ev) (l:List UInt8) (ins:Bool) (h:∀ m b,m.length < l.length→p m b=q m b) (i:Nat) (acc:List Ev):inlFrom p l ins i acc=inlFrom q l ins i acc:=by
  induction hm:l.length - i using Nat.strongRecOn generalizing i acc with
  | _ m ih =>
    rw [inlFrom.eq_def p l ins i acc,inlFrom.eq_def q l ins i acc,one_congr p q l i ins h]
    by_cases hi:i < l.length
    · rw [dif_pos hi,dif_pos hi]
      split
      · exact ih _ (by omega) _ _ rfl
      · exact ih _ (by omega) _ _ rfl
    · rw [dif_neg hi,dif_neg hi]
theorem inl_fuel (f g:Nat) (l:List UInt8) (ins:Bool) (hf:l.length < f) (hg:l.length < g):inlineF f l ins=inlineF g l ins:=by
  induction f generalizing g l ins with
  | zero=>omega
  | succ f ih =>
    obtain ⟨g',rfl⟩:∃ g',g=g'+1:=⟨g - 1,by omega⟩
    exact inl_congr (inlineF f) (inlineF g') l ins (fun m b hm=>ih g' m b (by omega) (by omega)) 0 []
theorem inl_eq (l:List UInt8) (ins:Bool):inlineS l ins=inlFrom inlineS l ins 0 [] :=
  inl_congr (inlineF l.length) inlineS l ins (fun m b hm=>inl_fuel l.length (m.length+1) m b hm (Nat.lt_succ_self _)) 0 []
end Go.Proofs.YtljcljipppjnoaaGreatDoor
namespace Go.Proofs.YtljcljipppjnoaaGreatDoor
open Go.RowKit
theorem at_drop (l:List UInt8) (i k:Nat):l[i+k]?=(l.drop i)[k]?:=by rw [List.getElem?_drop]
theorem next_add (l:List UInt8) (c:UInt8) (i k:Nat):nextAt l c (i+k)=i+nextAt (l.drop i) c k:=by
  unfold nextAt
  rw [List.drop_drop]
  omega
theorem stop_add (l:List UInt8) (i k:Nat):stopAt l (i+k)=i+stopAt (l.drop i) k:=by
  unfold stopAt
  rw [List.drop_drop]
  omega
theorem cut_add (l:List UInt8) (i a b:Nat):cut l (i+a) (i+b)=cut (l.drop i) a b:=by
  unfold cut
  rw [List.drop_drop,show i+b - (i+a)=b - a by omega]
theorem pnext_add (l:List UInt8) (i j:Nat):pnext l (i+j)=i+pnext (l.drop i) j:=by
  have e1:l[i+j]?=(l.drop i)[j]?:=at_drop l i j
  have e2:l[i+j+1]?=(l.drop i)[j+1]?:=by rw [Nat.add_assoc];exact at_drop l i (j+1)
  have e3:nextAt l 96 (i+j+1)=i+nextAt (l.drop i) 96 (j+1):=by rw [Nat.add_assoc];exact next_add l 96 i (j+1)
  have e4:(l.drop i).length=l.length - i:=List.length_drop
  unfold pnext
  rw [e1,e2,e3,e4]
  by_cases h1:(l.drop i)[j]?=some 96∧nextAt (l.drop i) 96 (j+1) < l.length - i
  · rw [if_pos ⟨h1.1,by omega⟩,if_pos h1];omega
  · rw [if_neg (fun h=>h1 ⟨h.1,by omega⟩),if_neg h1]
    split <;> omega
theorem pfrom_add (l:List UInt8) (i j:Nat):pfrom l (i+j)=i+pfrom (l.drop i) j:=by
  induction hm:l.length - (i+j) using Nat.strongRecOn generalizing j with
  | _ m ih =>
    have e1:=at_drop l i j
    have e4:(l.drop i).length=l.length - i:=List.length_drop
    by_cases h:j < (l.drop i).length∧(l.drop i)[j]? ≠ some 42
    · have h1:=pnext_gt (l.drop i) j
      rw [pfrom_go (l.drop i) j h.1 h.2,pfrom_go l (i+j) (by omega) (by rw [e1];exact h.2),pnext_add]
      exact ih (l.length - (i+pnext (l.drop i) j)) (by omega) _ rfl
    · rw [pfrom_at (l.drop i) j h,pfrom_at l (i+j) (fun h2=>h ⟨by omega,by rw [← e1];exact h2.2⟩)]
theorem link_drop (l:List UInt8) (i:Nat):linkS l i=(linkS (l.drop i) 0).map fun x=>(i+x.1,i+x.2):=by
  have e1:nextAt l 93 i=i+nextAt (l.drop i) 93 0:=next_add l 93 i 0
  have e2:nextAt l 91 (i+1)=i+nextAt (l.drop i) 91 (0+1):=next_add l 91 i 1
  have e4:(l.drop i).length=l.length - i:=List.length_drop
  unfold linkS
  rw [e1,e2,e4]
  generalize nextAt (l.drop i) 93 0=j
  generalize nextAt (l.drop i) 91 (0+1)=k
  have e5:stopAt l (i+j+2)=i+stopAt (l.drop i) (j+2):=by rw [Nat.add_assoc];exact stop_add l i (j+2)
  rw [e5,Nat.add_assoc i j 1,at_drop l i (j+1),at_drop l i (stopAt (l.drop i) (j+2))]
  by_cases h:j < l.length - i∧¬ k < j∧(l.drop i)[j+1]?=some 40∧(l.drop i)[stopAt (l.drop i) (j+2)]?=some 41
  · rw [if_pos h,if_pos ⟨by omega,by omega,h.2.2⟩]
    rfl
  · rw [if_neg h,if_neg (fun h2=>h ⟨by omega,by omega,h2.2.2⟩)]
    rfl
theorem partner_drop (l:List UInt8) (i:Nat):partnerS l i=(partnerS (l.drop i) 0).map fun j=>i+j:=by
  have e1:pfrom l (i+1)=i+pfrom (l.drop i) (0+1):=pfrom_add l i 1
  have e4:(l.drop i).length=l.length - i:=List.length_drop
  have hg:=pfrom_ge (l.drop i) (0+1)
  unfold partnerS
  rw [e1,e4,at_drop l i 1]
  generalize pfrom (l.drop i) (0+1)=j at hg
  rw [show i+j - 1=i+(j - 1) by omega,at_drop l i (j - 1)]
  by_cases h:j < l.length - i∧j ≠ 0+1∧(l.drop i)[0+1]?.map bl3=some false∧(l.drop i)[j - 1]?.map bl3=some false
  · rw [if_pos h,if_pos ⟨by omega,by omega,h.2.2⟩]
    rfl
  · rw [if_neg h,if_neg (fun h2=>h ⟨by omega,by omega,h2.2.2⟩)]
    rfl
theorem one_drop (inner:List UInt8→Bool→List Ev) (l:List UInt8) (i:Nat) (ins:Bool):oneS inner l i ins=oneS inner (l.drop i) 0 ins:=by
  have e1:l[i]?=(l.drop i)[0]?:=at_drop l i 0
  have e2:l[i+1]?=(l.drop i)[0+1]?:=at_drop l i 1
  have e3:nextAt l 96 (i+1)=i+nextAt (l.drop i) 96 (0+1):=next_add l 96 i 1
  have e4:(l.drop i).length=l.length - i:=List.length_drop
  unfold oneS
  rw [e1,e2]
  by_cases c1:(l.drop i)[0]?=some 92
  · rw [if_pos c1,if_pos c1]
    by_cases d1:(l.drop i)[0+1]?=some 10
    · rw [if_pos d1,if_pos d1]
    rw [if_neg d1,if_neg d1,show cut l (i+1) (i+2)=cut (l.drop i) (0+1) (0+2) from cut_add l i 1 2]
  rw [if_neg c1,if_neg c1]
  by_cases c2:(l.drop i)[0]?=some 10
  · rw [if_pos c2,if_pos c2]
  rw [if_neg c2,if_neg c2]
  by_cases c3:(l.drop i)[0]?=some 96
  · rw [if_pos c3,if_pos c3,e3,e4]
    by_cases d1:nextAt (l.drop i) 96 (0+1) < l.length - i
    · rw [if_pos d1,if_pos (by omega),show cut l (i+1) (i+nextAt (l.drop i) 96 (0+1))=cut (l.drop i) (0+1) (nextAt (l.drop i) 96 (0+1)) from cut_add l i 1 _]
      congr 1
      omega
    · rw [if_neg d1,if_neg (by omega)]
  rw [if_neg c3,if_neg c3]
  by_cases c4:(l.drop i)[0]?=some 91
  · rw [if_pos c4,if_pos c4,link_drop]
    cases hl:linkS (l.drop i) 0 with
    | none=>rfl
    | some x =>
      simp only [Option.map_some]
      rw [show cut l (i+x.1+2) (i+x.2)=cut (l.drop i) (x.1+2) x.2 by rw [Nat.add_assoc];exact cut_add l i _ _,show cut l (i+1) (i+x.1)=cut (l.drop i) (0+1) x.1 from cut_add l i 1 _]
      congr 1
      omega
  rw [if_neg c4,if_neg c4]
  by_cases c5:(l.drop i)[0]?=some 42
  · rw [if_pos c5,if_pos c5,partner_drop]
    cases ins with
    | true=>rfl
    | false =>
      cases hp:partnerS (l.drop i) 0 with
      | none=>rfl
      | some j =>
        simp only [Option.map_some,Bool.false_eq_true,if_false]
        rw [show cut l (i+1) (i+j)=cut (l.drop i) (0+1) j from cut_add l i 1 _]
        congr 1
        omega
  rw [if_neg c5,if_neg c5]
theorem inl_drop (inner:List UInt8→Bool→List Ev) (l:List UInt8) (ins:Bool) (i:Nat) (acc:List Ev):inlFrom inner l ins i acc=inlFrom inner (l.drop i) ins 0 acc:=by
  induction hm:l.length - i using Nat.strongRecOn generalizing l i acc with
  | _ m ih =>
    by_cases hi:i=0
    · subst hi
      rw [List.drop_zero]
    have e4:(l.drop i).length=l.length - i:=List.length_drop
    rw [inlFrom.eq_def inner l ins i acc,inlFrom.eq_def inner (l.drop i) ins 0 acc,one_drop inner l i ins]
    by_cases h:i < l.length
    · rw [dif_pos h,dif_pos (by omega)]
      split
      · rw [ih _ (by omega) l (i+1) _ rfl,show cut l i (i+1)=cut (l.drop i) 0 (0+1) from cut_add l i 0 1,ih _ (by omega) (l.drop i) (0+1) _ rfl,List.drop_drop]
      · rw [ih _ (by omega) l (i+_) _ rfl,ih _ (by omega) (l.drop i) (0+_) _ rfl,List.drop_drop,Nat.zero_add]
    · rw [dif_neg h,dif_neg (by omega)]
theorem inl_step (inner:List UInt8→Bool→List Ev) (r:List UInt8) (hr:r ≠ []) (ins:Bool) (acc:List Ev):inlFrom inner r ins 0 acc =
    if (oneS inner r 0 ins).2=0 then inlFrom inner (r.drop 1) ins 0 (addS acc (r.take 1))
    else inlFrom inner (r.drop (oneS inner r 0 ins).2) ins 0 (glue acc (oneS inner r 0 ins).1):=by
  have h:0 < r.length:=List.length_pos_iff.2 hr
  rw [inlFrom.eq_def inner r ins 0 acc,dif_pos h]
  split
  · rw [inl_drop inner r ins (0+1)]
    rfl
  · rw [inl_drop inner r ins (0+_),Nat.zero_add]
theorem inl_end (inner:List UInt8→Bool→List Ev) (ins:Bool) (acc:List Ev):inlFrom inner [] ins 0 acc=acc:=by
  rw [inlFrom.eq_def,dif_neg (by simp)]
theorem add_add (acc:List Ev) (t u:List UInt8):addS (addS acc t) u=addS acc (t++u):=by
  rcases List.eq_nil_or_concat acc with rfl | ⟨pre,e,rfl⟩
  · rw [add_nil,add_nil]
    exact (add_last [] ⟨8,false,0,t⟩ u).trans (by simp)
  · rw [List.concat_eq_append,add_last,add_last]
    split
    · next h=>rw [add_last,if_pos h,List.append_assoc]
    · rw [add_last,if_pos rfl]
def isMark (c:UInt8):Bool:=c == 92 || c == 10 || c == 96 || c == 91 || c == 42
theorem one_plain (inner:List UInt8→Bool→List Ev) (c:UInt8) (r:List UInt8) (ins:Bool) (h:isMark c=false):oneS inner (c :: r) 0 ins=([],0):=by
  simp only [isMark,Bool.or_eq_false_iff,beq_eq_false_iff_ne] at h
  unfold oneS
  have e:(c :: r)[0]?=some c:=rfl
  rw [e,if_neg (fun x=>h.1.1.1.1 (Option.some.inj x)),if_neg (fun x=>h.1.1.1.2 (Option.some.inj x)),if_neg (fun x=>h.1.1.2 (Option.some.inj x)),if_neg (fun x=>h.1.2 (Option.some.inj x)),if_neg (fun x=>h.2 (Option.some.inj x))]
theorem text_run (inner:List UInt8→Bool→List Ev) (ins:Bool) (acc:List Ev) (a r t:List UInt8) (h:∀ c ∈ a,isMark c=false):inlFrom inner (a++r) ins 0 (addS acc t)=inlFrom inner r ins 0 (addS acc (t++a)):=by
  induction a generalizing t with
  | nil=>simp
  | cons c a ih =>
    rw [inl_step inner _ (by simp),List.cons_append,one_plain inner c (a++r) ins (h c (by simp)),if_pos rfl,add_add]
    show inlFrom inner (a++r) ins 0 (addS acc (t++[c]))=_
    rw [ih (t++[c]) (fun x hx=>h x (by simp [hx])),List.append_assoc]
    rfl
theorem mem_tw (p:UInt8→Bool) (l:List UInt8) (x:UInt8) (h:x ∈ l.takeWhile p):p x=true:=by
  induction l with
  | nil=>simp at h
  | cons a l ih =>
    rw [List.takeWhile_cons] at h
    split at h
    · rcases List.mem_cons.1 h with rfl | h
      · assumption
      · exact ih h
    · cases h
def plainLen (r:List UInt8):Nat:=1+(r.tail.takeWhile fun c=>!isMark c).length
theorem take_plain (c:UInt8) (r:List UInt8):(c :: r).take (plainLen (c :: r))=c :: r.takeWhile fun c=>!isMark c:=by
  rw [plainLen,Nat.add_comm,List.take_succ_cons]
  congr 1
  exact List.prefix_iff_eq_take.1 (List.takeWhile_prefix _) |>.symm
theorem drop_plain (c:UInt8) (r:List UInt8):(c :: r).drop (plainLen (c :: r))=r.dropWhile fun c=>!isMark c:=by
  rw [plainLen,Nat.add_comm,List.drop_succ_cons]
  have h:(r.takeWhile fun c=>!isMark c)++(r.dropWhile fun c=>!isMark c)=r:=List.takeWhile_append_dropWhile
  show r.drop (r.takeWhile fun c=>!isMark c).length=_
  conv=>lhs;arg 2;rw [← h]
  rw [List.drop_left]
theorem plain_le (r:List UInt8) (h:r ≠ []):1≤plainLen r∧plainLen r≤r.length:=by
  cases r with
  | nil=>exact absurd rfl h
  | cons c r =>
    have:=(List.takeWhile_prefix (fun c=>!isMark c) (l:=r)).length_le
    simp only [plainLen,List.tail_cons,List.length_cons]
    omega
theorem inl_plain (inner:List UInt8→Bool→List Ev) (r:List UInt8) (hr:r ≠ []) (ins:Bool) (acc:List Ev) (h:(oneS inner r 0 ins).2=0):inlFrom inner r ins 0 acc=inlFrom inner (r.drop (plainLen r)) ins 0 (addS acc (r.take (plainLen r))):=by
  cases r with
  | nil=>exact absurd rfl hr
  | cons c r =>
    rw [inl_step inner _ hr,if_pos h,take_plain,drop_plain]
    show inlFrom inner r ins 0 (addS acc [c])=_
    have e:(r.takeWhile fun c=>!isMark c)++(r.dropWhile fun c=>!isMark c)=r:=List.takeWhile_append_dropWhile
    conv=>lhs;arg 2;rw [← e]
    rw [text_run]
    · rfl
    · intro x hx
      have:=mem_tw _ _ _ hx
      simpa using this
def tellS (acc:List Ev) (e:Ev):List Ev:=if e.kind=8 then addS acc e.text else acc++[e]
theorem add_behind (o acc:List Ev) (t:List UInt8) (h:acc ≠ []∨∀ e,o.getLast?=some e→e.kind ≠ 8):addS (o++acc) t=o++addS acc t:=by
  rcases List.eq_nil_or_concat acc with rfl | ⟨pre,e,rfl⟩
  · rcases h with h | h
    · exact absurd rfl h
    · rw [List.append_nil,add_nil]
      rcases List.eq_nil_or_concat o with rfl | ⟨pre,e,rfl⟩
      · rfl
      · rw [List.concat_eq_append] at h ⊢
        rw [add_last,if_neg (h e (by simp))]
  · rw [List.concat_eq_append,← List.append_assoc,add_last,add_last]
    split <;> simp
end Go.Proofs.YtljcljipppjnoaaGreatDoor
namespace Go.Proofs.YtljcljipppjnoaaGreatDoor
open Go.RowKit
set_option maxRecDepth 100000 in
set_option maxHeartbeats 4000000 in
theorem rinl_any (f:List UInt8→Bool→List Ev) (N:Nat) (hC:InlC N f) (hfl:∀ l ins,(f l ins).length≤2 * l.length) (hft:∀ l ins,∀ e ∈ f l ins,e.text.length≤l.length):InlC (N+1) (fun l ins=>inlFrom f l ins 0 []):=by
  intro s ins w hN hs
  have hl:=ba_len s
  obtain ⟨j0,hj,hy0,hy1,hy2⟩:=info_parts Tryz.infoEv
  obtain ⟨A,hA⟩:∃ A,inlFrom f s.data.toList ins 0 []=A:=⟨_,rfl⟩
  show Calls _ _ _ _ (fun e w'=>∃ v,e=.returned v∧w'.ownsRow w.heap.size 83 4 v (inlFrom f s.data.toList ins 0 []).length (evCs (inlFrom f s.data.toList ins 0 []))∧Below w.heap.size w w')
  rw [hA]
  have HA:Hid (inlFrom f s.data.toList ins 0 []=A):=hA
  have HC:Hid (InlC N f):=hC
  have HFL:Hid (∀ l ins,(f l ins).length≤2 * l.length):=hfl
  have HFT:Hid (∀ l ins,∀ e ∈ f l ins,e.text.length≤l.length):=hft
  clear hC hfl hft hA
  go_enter Tryz.func57,Tryz.ntmps57
  go_wp2
  go_loopw [5,6] (fun v5 v6 wr=>∃ (i:Nat) (acc:List Ev),i≤s.size∧v6=.int .i64 i∧wr.ownsRow w.heap.size 83 4 v5 acc.length (evCs acc)∧Below w.heap.size w wr∧Hid (inlFrom f s.data.toList ins i acc=A)∧acc.length≤2 * i∧Hid (∀ e ∈ acc,e.text.length≤i)) (fun _ v6 _=>s.size - (intOf v6).toNat)
  case atStart=>exact ⟨0,[],Nat.zero_le _,rfl,by simpa [evCs] using World.ownsRow_nil _ _ _ _,Below.refl _ _,HA,Nat.le_refl _,fun e he=>by cases he⟩
  case round =>
    clear HA
    obtain ⟨i,acc,hi,rfl,hown,hbel,HJ,hal,HT⟩:=hrel
    have hbs:=hbel.size
    by_cases hlt:i < s.size
    · obtain ⟨X,hX⟩:∃ X,oneS f s.data.toList i ins=X:=⟨_,rfl⟩
      have c1:=rone_any f N HC.out HFL.out s i ins wr (by omega) hs hlt X hX
      obtain ⟨f1,f2⟩:=one_facts f HFL.out s.data.toList i (by omega) ins
      have f3:=one_text f HFT.out s.data.toList i ins
      have hunf:=inlFrom.eq_def f s.data.toList ins i acc
      rw [dif_pos (by omega)] at hunf
      rw [hX] at f1 f2 f3 hunf
      rw [hl] at f2
      by_cases h0:X.2=0
      · rw [if_pos h0] at hunf
        have HJ2:Hid (inlFrom f s.data.toList ins (i+1) (addS acc (cut s.data.toList i (i+1)))=A):=by show _=_;rw [← hunf,HJ.out]
        have hc1:(cut s.data.toList i (i+1)).length=1:=by rw [cut_len _ _ _ (by omega)];omega
        have hadd:=add_len acc (cut s.data.toList i (i+1))
        have HT2:Hid (∀ e ∈ addS acc (cut s.data.toList i (i+1)),e.text.length≤i+1):=fun e he=>by have:=add_text acc _ i HT.out e he;omega
        have c2:=fun w1 (hb:w.heap.size≤w1.heap.size) (h:w1.ownsRow w.heap.size 83 4 u5 acc.length (evCs acc))=>radd_any w.heap.size u5 acc (cut s.data.toList i (i+1)) w1 hb h (by omega) (by omega) (fun e he=>by have:=HT.out e he;omega)
        have hbc:=ba_cut s i (i+1)
        rw [← hbc] at c2
        rw [h0] at c1
        generalize addS acc (cut s.data.toList i (i+1))=acc2 at HJ2 hadd HT2 c2
        clear hunf hX f1 f2 f3 HJ HT hc1 hbc
        go_wp2_with (first | (go_at_call 79;refine c1.mono ?_;rintro e w1 ⟨vm,rfl,ownm,b1⟩;have s1:=b1.size;have own1:=own_below hown b1 (Nat.le_refl _)) | (go_at_call 80;refine (c2 w1 (by omega) own1).mono ?_;rintro e w2 ⟨v2,rfl,own2,b2⟩))
        go_roundw
        case rel=>exact ⟨i+1,acc2,by omega,by go_num,own2,(hbel.trans (b1.mono hbs)).trans b2,HJ2,by omega,HT2⟩
        case measure=>simp [intOf];omega
      · rw [if_neg h0] at hunf
        have HJ2:Hid (inlFrom f s.data.toList ins (i+X.2) (glue acc X.1)=A):=by show _=_;rw [← hunf,HJ.out]
        have HT2:Hid (∀ e ∈ glue acc X.1,e.text.length≤i+X.2):=glue_text acc X.1 i X.2 HT.out f3
        have hgl:=glue_len acc X.1
        obtain ⟨m,n⟩:=X
        simp only at h0 HJ2 HT2 hgl f1 f2 f3 c1
        have hn0:((n:Int) == 0)=false:=by rw [beq_eq_false_iff_ne];omega
        have hnp:1≤n:=by omega
        by_cases hone:∃ e,m=[e]∧e.kind=8
        · obtain ⟨e,rfl,hk⟩:=hone
          have hge:glue acc [e]=addS acc e.text:=by simp [glue,hk]
          rw [hge] at HJ2 HT2 hgl
          have hte:=f3 e (by simp)
          have c2:=fun w1 (hb:w.heap.size≤w1.heap.size) (h:w1.ownsRow w.heap.size 83 4 u5 acc.length (evCs acc))=>radd_any w.heap.size u5 acc e.text w1 hb h (by omega) (by omega) (fun e he=>by have:=HT.out e he;omega)
          generalize addS acc e.text=acc2 at HJ2 HT2 hgl c2
          clear hunf hX f3 HJ HT hge h0
          have c3:Calls Tryz.prog 79 #[.string s,.int .i64 i,.bool ins] wr fun e1 w1=>∃ gm cap,e1=.returned (.tuple #[.slice (some ⟨gm,0,none⟩) 1 cap,.int .i64 n])∧w1.cell? ⟨gm,0,none⟩=some (.int .i64 8)∧w1.cell? ⟨gm,3,none⟩=some (.string ⟨e.text.toArray⟩)∧Below wr.heap.size wr w1:=by
            refine c1.mono ?_
            rintro e1 w1 ⟨vm,rfl,ownm,b1⟩
            rcases Joins.ownsRow_forms ownm with ⟨_,h⟩ | ⟨gm,cap,rfl⟩
            · cases h
            · have k0:=ownm.cells (g:=gm) rfl 0 (.int .i64 e.kind) rfl
              have k3:=ownm.cells (g:=gm) rfl 3 (.string ⟨e.text.toArray⟩) rfl
              rw [Addr.add_lit] at k0 k3
              rw [hk] at k0
              exact ⟨gm,cap,rfl,by simpa using k0,by simpa using k3,b1⟩
          clear c1 hk
          go_wp2_with (first | (go_at_call 79;refine c3.mono ?_;rintro e1 w1 ⟨gm,cap,rfl,k0,k3,b1⟩;have s1:=b1.size;have own1:=own_below hown b1 (Nat.le_refl _)) | (go_at_call 80;refine (c2 w1 (by omega) own1).mono ?_;rintro e1 w2 ⟨v2,rfl,own2,b2⟩))
          go_roundw
          case rel=>exact ⟨i+n,acc2,by omega,by go_num,own2,(hbel.trans (b1.mono hbs)).trans b2,HJ2,by omega,HT2⟩
          case measure=>simp [intOf];omega
        · have hge:glue acc m=acc++m:=by
            unfold glue
            split
            · next x=>rw [if_neg (fun h=>hone ⟨x,rfl,h⟩)]
            · rfl
          rw [hge] at HJ2 HT2
          by_cases hm1:∃ e,m=[e]
          · obtain ⟨e,rfl⟩:=hm1
            have hk:(e.kind == 8)=false:=by rw [beq_eq_false_iff_ne];exact fun h=>hone ⟨e,rfl,h⟩
            have c3:Calls Tryz.prog 79 #[.string s,.int .i64 i,.bool ins] wr fun e1 w1=>∃ gm cap,e1=.returned (.tuple #[.slice (some ⟨gm,0,none⟩) 1 cap,.int .i64 n])∧w1.cell? ⟨gm,0,none⟩=some (.int .i64 e.kind)∧w1.ownsRow wr.heap.size 83 4 (.slice (some ⟨gm,0,none⟩) 1 cap) 1 (evCs [e])∧Below wr.heap.size wr w1:=by
              refine c1.mono ?_
              rintro e1 w1 ⟨vm,rfl,ownm,b1⟩
              rcases Joins.ownsRow_forms ownm with ⟨_,h⟩ | ⟨gm,cap,rfl⟩
              · cases h
              · have k0:=ownm.cells (g:=gm) rfl 0 (.int .i64 e.kind) rfl
                rw [Addr.add_lit] at k0
                exact ⟨gm,cap,rfl,by simpa using k0,ownm,b1⟩
            clear c1 hunf hX f3 HJ HT hge hone h0
            go_wp2_with (first | (go_at_call 79;refine c3.mono ?_;rintro e1 w1 ⟨gm,cap,rfl,k0,ownm,b1⟩;have s1:=b1.size;have own1:=own_below hown b1 (Nat.le_refl _)) | (at_builtin;refine wpList_append_row _ rfl _ _ 27 rfl w.heap.size wr.heap.size 83 j0 (.agg #[.int .i64 0,.bool false,.int .i64 0,.string ⟨#[]⟩]) 4 40 Tryz.underlying27 hj hy0 hy1 hy2 rfl (by decide) _ _ _ rfl own1 _ _ _ rfl ownm (evCs_one' _) (by unfold maxLen;omega) (by omega) (by omega) ?_;intro v2 w2 own2 grow2))
            have b2:Below w.heap.size w w2:=(hbel.trans (b1.mono hbs)).grown grow2 (by omega) (fun b hb=>(own1.lt b hb).1)
            have own3:w2.ownsRow w.heap.size 83 4 v2 (acc++[e]).length (evCs (acc++[e])):=by
              rw [List.length_append,evCs_append]
              exact own2
            go_roundw
            case rel=>exact ⟨i+n,acc++[e],by omega,by go_num,own3,b2,HJ2,by rw [List.length_append];omega,HT2⟩
            case measure=>simp [intOf];omega
          · have hml:((m.length:Int) == 1)=false:=by
              rw [beq_eq_false_iff_ne]
              intro h
              have h2:m.length=1:=by omega
              exact hm1 (List.length_eq_one_iff.1 h2)
            have c3:Calls Tryz.prog 79 #[.string s,.int .i64 i,.bool ins] wr fun e1 w1=>∃ a cap,e1=.returned (.tuple #[.slice a m.length cap,.int .i64 n])∧w1.ownsRow wr.heap.size 83 4 (.slice a m.length cap) m.length (evCs m)∧Below wr.heap.size wr w1:=by
              refine c1.mono ?_
              rintro e1 w1 ⟨vm,rfl,ownm,b1⟩
              rcases Joins.ownsRow_forms ownm with ⟨rfl,h⟩ | ⟨gm,cap,rfl⟩
              · exact ⟨none,0,by rw [h],by rw [h] at ownm ⊢;exact ownm,b1⟩
              · exact ⟨some ⟨gm,0,none⟩,cap,rfl,ownm,b1⟩
            clear c1 hunf hX f3 HJ HT hge hone h0 hm1
            go_wp2_with (first | (go_at_call 79;refine c3.mono ?_;rintro e1 w1 ⟨a,cap,rfl,ownm,b1⟩;have s1:=b1.size;have own1:=own_below hown b1 (Nat.le_refl _)) | (at_builtin;refine wpList_append_row _ rfl _ _ 27 rfl w.heap.size wr.heap.size 83 j0 (.agg #[.int .i64 0,.bool false,.int .i64 0,.string ⟨#[]⟩]) 4 40 Tryz.underlying27 hj hy0 hy1 hy2 rfl (by decide) _ _ _ rfl own1 _ _ _ rfl ownm (evCs_one' _) (by unfold maxLen;omega) (by omega) (by omega) ?_;intro v2 w2 own2 grow2))
            have b2:Below w.heap.size w w2:=(hbel.trans (b1.mono hbs)).grown grow2 (by omega) (fun b hb=>(own1.lt b hb).1)
            have own3:w2.ownsRow w.heap.size 83 4 v2 (acc++m).length (evCs (acc++m)):=by
              rw [List.length_append,evCs_append]
              exact own2
            go_roundw
            case rel=>exact ⟨i+n,acc++m,by omega,by go_num,own3,b2,HJ2,by rw [List.length_append];omega,HT2⟩
            case measure=>simp [intOf];omega
    · have HF:Hid (acc=A):=by show _=_;rw [← HJ.out,inlFrom,dif_neg (by omega)]
      go_wp2
      go_ret
      rw [← HF.out]
      exact ⟨_,rfl,hown,hbel⟩
theorem rinl_at (k:Nat):InlC k (inlineF k):=by
  induction k with
  | zero=>exact fun s ins w h=>absurd h (Nat.not_lt_zero _)
  | succ k ih=>exact rinl_any (inlineF k) k ih (inlF_facts k).1 (inlF_facts k).2
theorem rinl_doc (s:ByteArray) (ins:Bool) (w:World) (hs:s.size≤1073741824) :
    Calls Tryz.prog 57 #[.string s,.bool ins] w fun e w'=>∃ v,e=.returned v∧w'.ownsRow w.heap.size 83 4 v (inlineS s.data.toList ins).length (evCs (inlineS s.data.toList ins))∧Below w.heap.size w w':=by
  have h:=rinl_at (s.size+1) s ins w (Nat.lt_succ_self _) hs
  rw [← ba_len s] at h
  exact h
end Go.Proofs.YtljcljipppjnoaaGreatDoor
namespace Go.Proofs.YtljcljipppjnoaaGreatDoor
open Go.RowKit
def escC (c:UInt8):List UInt8 :=
  if c=38 then [38,97,109,112,59] else if c=60 then [38,108,116,59] else if c=62 then [38,103,116,59] else if c=34 then [38,113,117,111,116,59] else [c]
def escL (l:List UInt8):List UInt8:=l.flatMap escC
theorem esc_snoc (l:List UInt8) (c:UInt8):escL (l++[c])=escL l++escC c:=by simp [escL]
theorem one_cut (s:ByteArray) (k:Nat) (h:k < s.size):s.extract k (k+1)=⟨[s[k]].toArray⟩:=by
  apply ByteArray.ext
  apply Array.ext'
  rw [Lib.extract_data,drop_cons s k h,show k+1 - k=1 by omega]
  rfl
set_option maxRecDepth 100000 in
set_option maxHeartbeats 2000000 in
theorem rplain_any (s:ByteArray) (w:World) (hs:s.size≤1099511627776) :
    Calls Tryz.prog 74 #[.string s] w fun e w'=>e=.returned (.string ⟨(escL s.data.toList).toArray⟩)∧w'=w:=by
  have hl:=ba_len s
  go_enter Tryz.func74,Tryz.ntmps74
  go_wp2
  go_loop [3,4] (fun t i=>∃ (k:Nat) (acc:List UInt8),k≤s.size∧i=.int .i64 k∧t=.string ⟨acc.toArray⟩∧Hid (acc=escL (s.data.toList.take k))∧acc.length≤6 * k) (fun _ i=>s.size - (intOf i).toNat)
  case atStart=>exact ⟨0,[],Nat.zero_le _,rfl,rfl,(by show _=_;rfl),Nat.le_refl _⟩
  case round =>
    obtain ⟨k,acc,hk,rfl,rfl,HA,hal⟩:=hrel
    have hs1:=size_of acc
    by_cases hlt:k < s.size
    · have HS:Hid (escL (s.data.toList.take (k+1))=acc++escC s[k]):=by
        show _=_
        rw [take_snoc s k hlt,esc_snoc,HA.out]
      by_cases h38:s[k]=38
      · have g:((s[k].toNat:Int) == 38)=true:=by rw [h38];rfl
        have HE:Hid (acc++[38,97,109,112,59]=escL (s.data.toList.take (k+1))):=by show _=_;rw [HS.out,escC,if_pos h38]
        clear HS HA h38
        go_wp2
        go_round
        case rel=>exact ⟨k+1,acc++[38,97,109,112,59],by omega,by go_num,congrArg Value.string (ba_app acc _),HE,by simp;omega⟩
        case measure=>simp [intOf];omega
      have g38:((s[k].toNat:Int) == 38)=false:=(u8_eq s[k] 38).trans (beq_eq_false_iff_ne.2 h38)
      by_cases h60:s[k]=60
      · have g:((s[k].toNat:Int) == 60)=true:=by rw [h60];rfl
        have HE:Hid (acc++[38,108,116,59]=escL (s.data.toList.take (k+1))):=by show _=_;rw [HS.out,escC,if_neg h38,if_pos h60]
        clear HS HA h38 h60
        go_wp2
        go_round
        case rel=>exact ⟨k+1,acc++[38,108,116,59],by omega,by go_num,congrArg Value.string (ba_app acc _),HE,by simp;omega⟩
        case measure=>simp [intOf];omega
      have g60:((s[k].toNat:Int) == 60)=false:=(u8_eq s[k] 60).trans (beq_eq_false_iff_ne.2 h60)
      by_cases h62:s[k]=62
      · have g:((s[k].toNat:Int) == 62)=true:=by rw [h62];rfl
        have HE:Hid (acc++[38,103,116,59]=escL (s.data.toList.take (k+1))):=by show _=_;rw [HS.out,escC,if_neg h38,if_neg h60,if_pos h62]
        clear HS HA h38 h60 h62
        go_wp2
        go_round
        case rel=>exact ⟨k+1,acc++[38,103,116,59],by omega,by go_num,congrArg Value.string (ba_app acc _),HE,by simp;omega⟩
        case measure=>simp [intOf];omega
      have g62:((s[k].toNat:Int) == 62)=false:=(u8_eq s[k] 62).trans (beq_eq_false_iff_ne.2 h62)
      by_cases h34:s[k]=34
      · have g:((s[k].toNat:Int) == 34)=true:=by rw [h34];rfl
        have HE:Hid (acc++[38,113,117,111,116,59]=escL (s.data.toList.take (k+1))):=by show _=_;rw [HS.out,escC,if_neg h38,if_neg h60,if_neg h62,if_pos h34]
        clear HS HA h38 h60 h62 h34
        go_wp2
        go_round
        case rel=>exact ⟨k+1,acc++[38,113,117,111,116,59],by omega,by go_num,congrArg Value.string (ba_app acc _),HE,by simp;omega⟩
        case measure=>simp [intOf];omega
      have g34:((s[k].toNat:Int) == 34)=false:=(u8_eq s[k] 34).trans (beq_eq_false_iff_ne.2 h34)
      have HE:Hid (acc++[s[k]]=escL (s.data.toList.take (k+1))):=by show _=_;rw [HS.out,escC,if_neg h38,if_neg h60,if_neg h62,if_neg h34]
      have HX:Hid (s.extract k (k+1)=⟨[s[k]].toArray⟩):=one_cut s k hlt
      have hxs:(s.extract k (k+1)).size=1:=by rw [one_cut s k hlt];rfl
      clear HS HA h38 h60 h62 h34
      go_wp2
      go_round
      case rel=>exact ⟨k+1,acc++[s[k]],by omega,by go_num,by rw [HX.out];exact congrArg Value.string (ba_app acc [s[k]]),HE,by simp;omega⟩
      case measure=>simp [intOf];omega
    · have HF:Hid (acc=escL s.data.toList):=by
        show _=_
        rw [HA.out,List.take_of_length_le (by omega)]
      go_wp2
      go_ret
      rw [← HF.out]
      exact ⟨rfl,rfl⟩
end Go.Proofs.YtljcljipppjnoaaGreatDoor
