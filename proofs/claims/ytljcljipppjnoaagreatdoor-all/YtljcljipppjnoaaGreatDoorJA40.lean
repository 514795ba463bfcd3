import Derived.Test.YtljcljipppjnoaaGreatDoorJA20
import Derived.Test.YtljcljipppjnoaaGreatDoorJA27
import Derived.Laws.IdiomStrings
namespace Go.Proofs.YtljcljipppjnoaaGreatDoor
open Go.RowKit
def slashS (e:Ev):List UInt8:=if e.fin=true then [47] else []
def feedS (e:Ev):List UInt8:=if e.fin=true∨e.kind=2∨e.kind=3∨e.kind=4 then [10] else []
def htmlS (e:Ev):List UInt8 :=
  if e.kind=0 then [60]++slashS e++[112,62]++feedS e
  else if e.kind=1 then [60]++slashS e++[104]++[UInt8.ofNat (48+e.level.toNat)]++[62]++feedS e
  else if e.kind=2 then [60]++slashS e++[98,108,111,99,107,113,117,111,116,101,62]++feedS e
  else if e.kind=3 then [60]++slashS e++[117,108,62]++feedS e
  else if e.kind=4 then [60]++slashS e++[108,105,62]++feedS e
  else if e.kind=6 then [60]++slashS e++[101,109,62]
  else if e.kind=5 then (if e.fin=true then [60,47,99,111,100,101,62,60,47,112,114,101,62,10] else [60,112,114,101,62,60,99,111,100,101,62])
  else if e.kind=7 then (if e.fin=true then [60,47,97,62] else [60,97,32,104,114,101,102,61,34]++whereL e.text++[34,62])
  else if e.kind=9 then [60,99,111,100,101,62]++escL e.text++[60,47,99,111,100,101,62]
  else if e.kind=10 then [10]
  else if e.kind=11 then [60,98,114,62,10]
  else escL e.text
def pageS (l:List Ev):List UInt8:=l.flatMap htmlS
theorem escC_len (c:UInt8):(escC c).length≤6:=by
  unfold escC
  repeat' split
  all_goals simp
theorem esc_len (l:List UInt8):(escL l).length≤6 * l.length:=by
  induction l with
  | nil=>simp [escL]
  | cons c l ih =>
    have:=escC_len c
    simp only [escL,List.flatMap_cons,List.length_append,List.length_cons] at ih ⊢
    omega
theorem whereC_len (c:UInt8):(whereC c).length≤6:=by
  have hc:∀ k,(whereC.cutH k).length≤1:=fun k=>by unfold whereC.cutH;rw [List.length_take];omega
  have h1:=hc (c.toNat / 16)
  have h2:=hc (c.toNat % 16)
  unfold whereC
  split
  · simp
  split
  · simp
  · simp only [List.length_append,List.length_singleton]
    omega
theorem where_len (l:List UInt8):(whereL l).length≤6 * l.length:=by
  induction l with
  | nil=>simp [whereL]
  | cons c l ih =>
    have:=whereC_len c
    simp only [whereL,List.flatMap_cons,List.length_append,List.length_cons] at ih ⊢
    omega
set_option maxRecDepth 100000 in
set_option maxHeartbeats 4000000 in
theorem rhtml_any (e:Ev) (w:World) (hl:e.text.length≤1073741824) (hv:0≤e.level∧e.level≤3) :
    Calls Tryz.prog 53 #[.agg #[.int .i64 e.kind,.bool e.fin,.int .i64 e.level,.string ⟨e.text.toArray⟩]] w fun r w'=>r=.returned (.string ⟨(htmlS e).toArray⟩)∧Below w.heap.size w w':=by
  have hz:=size_of e.text
  have cW:=fun W=>rwhere_any ⟨e.text.toArray⟩ W (by omega)
  have cP:=fun W=>rplain_any ⟨e.text.toArray⟩ W (by omega)
  have e1:(⟨e.text.toArray⟩:ByteArray).data.toList=e.text:=rfl
  rw [e1] at cW cP
  obtain ⟨kd,fn,lv,tx⟩:=e
  simp only at cW cP hz hv hl ⊢
  clear e1
  by_cases h0:kd=0
  · subst h0
    clear cW cP
    cases fn
    all_goals
      go_enter Tryz.func53,Tryz.ntmps53
      go_wp2
      go_ret
      exact ⟨rfl,(Below.refl _ w).alloc (Nat.le_refl _) _⟩
  have g0:(kd == 0)=false:=beq_eq_false_iff_ne.2 h0
  by_cases h1:kd=1
  · subst h1
    clear cW cP
    have hcv:∀ (f:Bool) (n:Int) (c:UInt8),(c.toNat:Int)=n→(convert 107 9 (.slice (some ⟨w.heap.size+1,0,none⟩) 1 1)).run Tryz.prog ((w.alloc (.cells #[.int .i64 1,.bool f,.int .i64 lv,.string ⟨tx.toArray⟩] 83)).alloc (.cells #[.int .u8 n] 5))=.ok (.string ⟨[c].toArray⟩) ((w.alloc (.cells #[.int .i64 1,.bool f,.int .i64 lv,.string ⟨tx.toArray⟩] 83)).alloc (.cells #[.int .u8 n] 5)):=by
      intro f n c hc
      refine run_convert_bytes_back _ _ _ 5 ⟨w.heap.size+1,0,none⟩ 1 [c] Tryz.underlying107 Tryz.underlying5 Tryz.underlying9 ?_
      intro j hj
      have hj0:j=0:=by simp at hj;omega
      subst hj0
      have:=heap_alloc_new (w.alloc (.cells #[.int .i64 1,.bool f,.int .i64 lv,.string ⟨tx.toArray⟩] 83)) (.cells #[.int .u8 n] 5)
      have h2:((w.alloc (.cells #[.int .i64 1,.bool f,.int .i64 lv,.string ⟨tx.toArray⟩] 83)).alloc (.cells #[.int .u8 n] 5)).heap[w.heap.size+1]?=some (.cells #[.int .u8 n] 5 (0,0)):=by simpa using this
      have h3:=cell_of_one h2
      simp only [List.getElem_cons_zero]
      rw [hc,← h3]
      rfl
    have hlv:lv=0∨lv=1∨lv=2∨lv=3:=by omega
    rcases hlv with rfl | rfl | rfl | rfl
    · have hcv2:=fun f=>hcv f 48 48 rfl
      clear hcv
      cases fn
      all_goals
        go_enter Tryz.func53,Tryz.ntmps53
        go_wp2
        go_ret
        exact ⟨rfl,((Below.refl _ w).alloc (Nat.le_refl _) _).alloc (by simp) _⟩
    · have hcv2:=fun f=>hcv f 49 49 rfl
      clear hcv
      cases fn
      all_goals
        go_enter Tryz.func53,Tryz.ntmps53
        go_wp2
        go_ret
        exact ⟨rfl,((Below.refl _ w).alloc (Nat.le_refl _) _).alloc (by simp) _⟩
    · have hcv2:=fun f=>hcv f 50 50 rfl
      clear hcv
      cases fn
      all_goals
        go_enter Tryz.func53,Tryz.ntmps53
        go_wp2
        go_ret
        exact ⟨rfl,((Below.refl _ w).alloc (Nat.le_refl _) _).alloc (by simp) _⟩
    · have hcv2:=fun f=>hcv f 51 51 rfl
      clear hcv
      cases fn
      all_goals
        go_enter Tryz.func53,Tryz.ntmps53
        go_wp2
        go_ret
        exact ⟨rfl,((Below.refl _ w).alloc (Nat.le_refl _) _).alloc (by simp) _⟩
  have g1:(kd == 1)=false:=beq_eq_false_iff_ne.2 h1
  by_cases h2:kd=2
  · subst h2
    clear cW cP
    cases fn
    all_goals
      go_enter Tryz.func53,Tryz.ntmps53
      go_wp2
      go_ret
      exact ⟨rfl,(Below.refl _ w).alloc (Nat.le_refl _) _⟩
  have g2:(kd == 2)=false:=beq_eq_false_iff_ne.2 h2
  by_cases h3:kd=3
  · subst h3
    clear cW cP
    cases fn
    all_goals
      go_enter Tryz.func53,Tryz.ntmps53
      go_wp2
      go_ret
      exact ⟨rfl,(Below.refl _ w).alloc (Nat.le_refl _) _⟩
  have g3:(kd == 3)=false:=beq_eq_false_iff_ne.2 h3
  by_cases h4:kd=4
  · subst h4
    clear cW cP
    cases fn
    all_goals
      go_enter Tryz.func53,Tryz.ntmps53
      go_wp2
      go_ret
      exact ⟨rfl,(Below.refl _ w).alloc (Nat.le_refl _) _⟩
  have g4:(kd == 4)=false:=beq_eq_false_iff_ne.2 h4
  by_cases h6:kd=6
  · subst h6
    clear cW cP
    cases fn
    all_goals
      go_enter Tryz.func53,Tryz.ntmps53
      go_wp2
      go_ret
      exact ⟨rfl,(Below.refl _ w).alloc (Nat.le_refl _) _⟩
  have g6:(kd == 6)=false:=beq_eq_false_iff_ne.2 h6
  by_cases h5:kd=5
  · subst h5
    clear cW cP
    cases fn
    all_goals
      go_enter Tryz.func53,Tryz.ntmps53
      go_wp2
      go_ret
      exact ⟨rfl,(Below.refl _ w).alloc (Nat.le_refl _) _⟩
  have g5:(kd == 5)=false:=beq_eq_false_iff_ne.2 h5
  by_cases h7:kd=7
  · subst h7
    clear cP
    cases fn
    · have HW:Hid (htmlS ⟨7,false,lv,tx⟩=[60,97,32,104,114,101,102,61,34]++whereL tx++[34,62]):=by show _=_;rfl
      have hwl:(whereL tx).length≤6 * tx.length:=where_len tx
      have hwz:=size_of (whereL tx)
      generalize whereL tx=u at cW HW hwl hwz
      go_enter Tryz.func53,Tryz.ntmps53
      go_wp2_with (go_at_call 73;refine (cW _).mono ?_;rintro e w1 ⟨rfl,b1⟩)
      go_ret
      rw [HW.out]
      exact ⟨by rw [← ba_app,← ba_app];rfl,((Below.refl _ w).alloc (Nat.le_refl _) _).trans (b1.mono (by simp))⟩
    · clear cW
      go_enter Tryz.func53,Tryz.ntmps53
      go_wp2
      go_ret
      exact ⟨rfl,(Below.refl _ w).alloc (Nat.le_refl _) _⟩
  have g7:(kd == 7)=false:=beq_eq_false_iff_ne.2 h7
  by_cases h9:kd=9
  · subst h9
    clear cW
    have HW:∀ fn,Hid (htmlS ⟨9,fn,lv,tx⟩=[60,99,111,100,101,62]++escL tx++[60,47,99,111,100,101,62]):=fun _=>by show _=_;rfl
    have hwl:(escL tx).length≤6 * tx.length:=esc_len tx
    have hwz:=size_of (escL tx)
    generalize escL tx=u at cP HW hwl hwz
    cases fn
    all_goals
      go_enter Tryz.func53,Tryz.ntmps53
      go_wp2_with (go_at_call 74;refine (cP _).mono ?_;rintro e w1 ⟨rfl,hw⟩;rw [hw];clear hw)
      go_ret
      rw [(HW _).out]
      exact ⟨by rw [← ba_app,← ba_app];rfl,(Below.refl _ w).alloc (Nat.le_refl _) _⟩
  have g9:(kd == 9)=false:=beq_eq_false_iff_ne.2 h9
  by_cases h10:kd=10
  · subst h10
    clear cW cP
    cases fn
    all_goals
      go_enter Tryz.func53,Tryz.ntmps53
      go_wp2
      go_ret
      exact ⟨rfl,(Below.refl _ w).alloc (Nat.le_refl _) _⟩
  have g10:(kd == 10)=false:=beq_eq_false_iff_ne.2 h10
  by_cases h11:kd=11
  · subst h11
    clear cW cP
    cases fn
    all_goals
      go_enter Tryz.func53,Tryz.ntmps53
      go_wp2
      go_ret
      exact ⟨rfl,(Below.refl _ w).alloc (Nat.le_refl _) _⟩
  have g11:(kd == 11)=false:=beq_eq_false_iff_ne.2 h11
  have HW:∀ fn,Hid (htmlS ⟨kd,fn,lv,tx⟩=escL tx):=fun fn=>by
    show _=_
    unfold htmlS
    rw [if_neg h0,if_neg h1,if_neg h2,if_neg h3,if_neg h4,if_neg h6,if_neg h5,if_neg h7,if_neg h9,if_neg h10,if_neg h11]
  clear cW h0 h1 h2 h3 h4 h5 h6 h7 h9 h10 h11
  cases fn
  all_goals
    go_enter Tryz.func53,Tryz.ntmps53
    go_wp2_with (go_at_call 74;refine (cP _).mono ?_;rintro e w1 ⟨rfl,hw⟩;rw [hw];clear hw)
    go_ret
    rw [(HW _).out]
    exact ⟨rfl,(Below.refl _ w).alloc (Nat.le_refl _) _⟩
end Go.Proofs.YtljcljipppjnoaaGreatDoor
namespace Go.Proofs.YtljcljipppjnoaaGreatDoor
open Go.RowKit
def Lev (e:Ev):Prop:=(0≤e.level∧e.level≤3)∧0≤e.kind∧e.kind≤11
def Lv0 (e:Ev):Prop:=e.level=0∧0≤e.kind∧e.kind≤11
theorem levL_le (l:List UInt8):levelL l≤3:=by
  unfold levelL levelS
  split <;> omega
theorem leaf_lev (k v:Int) (t:List UInt8) (h:(0≤v∧v≤3)∧0≤k∧k≤11):∀ e ∈ leafS k v t,Lev e:=by
  intro e he
  unfold leafS at he
  simp only [List.mem_append,List.mem_singleton] at he
  rcases he with (rfl | he) | rfl
  · exact h
  · split at he
    · cases he
    · simp at he
      subst he
      exact ⟨⟨by show (0:Int)≤0;decide,by show (0:Int)≤3;decide⟩,by show (0:Int)≤8;decide,by show (8:Int)≤11;decide⟩
  · exact h
theorem items_lev (inner:List (List UInt8)→List Ev) (hI:∀ ls,∀ e ∈ inner ls,Lev e) (ls:List (List UInt8)) (n:Nat):∀ e ∈ (itemsAt inner ls n).1,Lev e:=by
  induction hm:ls.length - n using Nat.strongRecOn generalizing n with
  | _ m ih =>
    have hev:∀ e ∈ itemEv inner ls n,Lev e:=by
      intro e he
      simp only [itemEv,List.mem_append,List.mem_singleton] at he
      rcases he with (rfl | he) | rfl
      · exact ⟨⟨by decide,by decide⟩,by decide,by decide⟩
      · exact hI _ e he
      · exact ⟨⟨by decide,by decide⟩,by decide,by decide⟩
    have hge:=behind_ge ls (moreAt ls (n+1)).2
    have hmg:=more_ge ls (n+1)
    by_cases h:behindS ls (moreAt ls (n+1)).2 < ls.length
    · cases h2:itemL ls[behindS ls (moreAt ls (n+1)).2] with
      | true =>
        rw [items_go inner ls n _ rfl h h2]
        intro e he
        simp only [List.mem_append] at he
        rcases he with he | he
        · exact hev e he
        · exact ih _ (by omega) _ rfl e he
      | false=>rw [items_no inner ls n _ rfl h h2];exact hev
    · rw [items_end inner ls n _ rfl h];exact hev
theorem step_lev (inner:List (List UInt8)→List Ev) (hI:∀ ls,∀ e ∈ inner ls,Lev e) (depth:Int) (l:List UInt8) (r:List (List UInt8)):∀ e ∈ (stepS inner depth l (l :: r)).1,Lev e:=by
  have hz:(0:Int)≤0∧(0:Int)≤3:=⟨by decide,by decide⟩
  unfold stepS
  split
  · exact leaf_lev _ _ _ ⟨hz,by decide,by decide⟩
  split
  · have:=levL_le l
    exact leaf_lev _ _ _ ⟨⟨by omega,by omega⟩,by decide,by decide⟩
  split
  · intro e he
    simp only [quoteS,List.mem_append,List.mem_singleton] at he
    rcases he with (rfl | he) | rfl
    · exact ⟨hz,by decide,by decide⟩
    · exact hI _ e he
    · exact ⟨hz,by decide,by decide⟩
  split
  · intro e he
    simp only [listS,List.mem_append,List.mem_singleton] at he
    rcases he with (rfl | he) | rfl
    · exact ⟨hz,by decide,by decide⟩
    · exact items_lev inner hI _ 0 e he
    · exact ⟨hz,by decide,by decide⟩
  · exact leaf_lev _ _ _ ⟨hz,by decide,by decide⟩
theorem blocks_lev (inner:List (List UInt8)→List Ev) (hI:∀ ls,∀ e ∈ inner ls,Lev e) (depth:Int) (ls:List (List UInt8)):∀ e ∈ blocksF inner depth ls,Lev e:=by
  induction hm:ls.length using Nat.strongRecOn generalizing ls with
  | _ m ih =>
    cases ls with
    | nil=>simp [blocksF]
    | cons l r =>
      rw [blocksF]
      rw [List.length_cons] at hm
      split
      · exact ih r.length (by omega) r rfl
      · have s1:=step_lev inner hI depth l r
        generalize stepS inner depth l (l :: r)=X at s1
        have hd:(r.drop (X.2 - 1)).length≤r.length:=by rw [List.length_drop];omega
        intro e he
        rcases List.mem_append.1 he with he | he
        · exact s1 e he
        · exact ih (r.drop (X.2 - 1)).length (by omega) _ rfl e he
theorem blocksAt_lev (d:Nat) (ls:List (List UInt8)):∀ e ∈ blocksAt d ls,Lev e:=by
  induction d generalizing ls with
  | zero=>exact blocks_lev (fun _=>[]) (fun _ e he=>by cases he) 3 ls
  | succ d ih=>exact blocks_lev (blocksAt d) ih (2 - (d:Int)) ls
theorem add_lev (acc:List Ev) (t:List UInt8) (h:∀ e ∈ acc,Lv0 e):∀ e ∈ addS acc t,Lv0 e:=by
  rcases List.eq_nil_or_concat acc with rfl | ⟨pre,x,rfl⟩
  · intro e he
    simp [addS] at he
    subst he
    exact ⟨rfl,by show (0:Int)≤8;decide,by show (8:Int)≤11;decide⟩
  · rw [List.concat_eq_append] at h ⊢
    rw [add_last]
    split
    · intro e he
      rcases List.mem_append.1 he with he | he
      · exact h e (by simp [he])
      · simp at he
        subst he
        exact h x (by simp)
    · intro e he
      rcases List.mem_append.1 he with he | he
      · exact h e he
      · simp at he
        subst he
        exact ⟨rfl,by show (0:Int)≤8;decide,by show (8:Int)≤11;decide⟩
theorem one_lev (inner:List UInt8→Bool→List Ev) (hI:∀ l ins,∀ e ∈ inner l ins,Lv0 e) (l:List UInt8) (i:Nat) (ins:Bool):∀ e ∈ (oneS inner l i ins).1,Lv0 e:=by
  have hk0:∀ (k:Int) (f:Bool) (t:List UInt8),0≤k→k≤11→Lv0 ⟨k,f,0,t⟩:=fun k f t h1 h2=>⟨rfl,h1,h2⟩
  unfold oneS
  split
  · split
    · intro e he;simp at he;subst he;exact hk0 _ _ _ (by decide) (by decide)
    · split
      · intro e he;simp at he;subst he;exact hk0 _ _ _ (by decide) (by decide)
      · intro e he;simp at he
  split
  · intro e he;simp at he;subst he;exact hk0 _ _ _ (by decide) (by decide)
  split
  · split
    · intro e he;simp at he;subst he;exact hk0 _ _ _ (by decide) (by decide)
    · intro e he;simp at he
  split
  · cases linkS l i with
    | none=>intro e he;simp at he
    | some x =>
      intro e he
      simp only [List.mem_append,List.mem_singleton] at he
      rcases he with (rfl | he) | rfl
      · exact hk0 _ _ _ (by decide) (by decide)
      · exact hI _ _ e he
      · exact hk0 _ _ _ (by decide) (by decide)
  split
  · split
    · intro e he;simp at he
    · cases partnerS l i with
      | none=>intro e he;simp at he
      | some j =>
        intro e he
        simp only [List.mem_append,List.mem_singleton] at he
        rcases he with (rfl | he) | rfl
        · exact hk0 _ _ _ (by decide) (by decide)
        · exact hI _ _ e he
        · exact hk0 _ _ _ (by decide) (by decide)
  · intro e he;simp at he
theorem glue_lev (acc m:List Ev) (h:∀ e ∈ acc,Lv0 e) (h2:∀ e ∈ m,Lv0 e):∀ e ∈ glue acc m,Lv0 e:=by
  have hap:∀ e ∈ acc++m,Lv0 e:=fun e he=>(List.mem_append.1 he).elim (h e) (h2 e)
  unfold glue
  split
  · split
    · exact add_lev acc _ h
    · exact hap
  · exact hap
theorem inl_lev (inner:List UInt8→Bool→List Ev) (hI:∀ l ins,∀ e ∈ inner l ins,Lv0 e) (l:List UInt8) (ins:Bool) (i:Nat) (acc:List Ev) (h:∀ e ∈ acc,Lv0 e):∀ e ∈ inlFrom inner l ins i acc,Lv0 e:=by
  induction hm:l.length - i using Nat.strongRecOn generalizing i acc with
  | _ m ih =>
    rw [inlFrom]
    by_cases hi:i < l.length
    · rw [dif_pos hi]
      split
      · exact ih _ (by omega) _ _ (add_lev acc _ h) rfl
      · exact ih _ (by omega) _ _ (glue_lev acc _ h (one_lev inner hI l i ins)) rfl
    · rw [dif_neg hi]
      exact h
theorem inlF_lev (f:Nat) (l:List UInt8) (ins:Bool):∀ e ∈ inlineF f l ins,Lv0 e:=by
  induction f generalizing l ins with
  | zero=>intro e he;simp [inlineF] at he
  | succ f ih=>exact inl_lev (inlineF f) ih l ins 0 [] (fun e he=>by cases he)
theorem evAt_facts (l:List Ev) (M:Nat) (h:∀ e ∈ l,Lev e∧e.text.length≤M) (i:Nat):∀ e ∈ evAt l i,Lev e∧e.text.length≤M:=by
  unfold evAt
  cases hi:l[i]? with
  | none=>intro e he;simp at he
  | some x =>
    simp only
    have hx:=h x (List.mem_of_getElem? hi)
    split
    · intro e he
      have h1:=inlF_lev (x.text.length+1) x.text false e he
      have h2:=(inlF_facts (x.text.length+1)).2 x.text false e he
      exact ⟨⟨⟨by have:=h1.1;omega,by have:=h1.1;omega⟩,h1.2⟩,by omega⟩
    · intro e he
      simp at he
      subst he
      exact hx
theorem events_facts (t:List UInt8):∀ e ∈ eventsS t,Lev e∧e.text.length≤t.length+1:=by
  intro e he
  unfold eventsS evUpto at he
  obtain ⟨i,_,hi⟩:=List.mem_flatMap.1 he
  refine evAt_facts _ (t.length+1) (fun x hx=>⟨blocksAt_lev 3 _ x hx,?_⟩) i e hi
  have h1:=(blocksAt_text 3 (linesL [] t)).1 x hx
  have h2:=tot_lines t
  omega
theorem events_many (t:List UInt8) (ht:t.length≤8192):(eventsS t).length≤16387 * 131088:=by
  have htl:=tot_lines t
  have hll:=tot_len (linesL [] t)
  have hbl:=blocksAt_le 3 (linesL [] t)
  have hbt:=(blocksAt_text 3 (linesL [] t)).1
  have hbn:(blocksAt 3 (linesL [] t)).length≤131088:=by omega
  have h:=evUpto_len (blocksAt 3 (linesL [] t)) 8193 (fun e he=>by have:=hbt e he;omega) (blocksAt 3 (linesL [] t)).length
  unfold eventsS
  exact Nat.le_trans h (Nat.mul_le_mul (by omega) hbn)
theorem html_len (e:Ev):(htmlS e).length≤6 * e.text.length+32:=by
  have h1:=esc_len e.text
  have h2:=where_len e.text
  have hs:(slashS e).length≤1:=by unfold slashS;split <;> simp
  have hf:(feedS e).length≤1:=by unfold feedS;split <;> simp
  unfold htmlS
  by_cases k0:e.kind=0
  · rw [if_pos k0]
    simp only [List.length_append,List.length_cons,List.length_nil]
    omega
  rw [if_neg k0]
  by_cases k1:e.kind=1
  · rw [if_pos k1]
    simp only [List.length_append,List.length_cons,List.length_nil]
    omega
  rw [if_neg k1]
  by_cases k2:e.kind=2
  · rw [if_pos k2]
    simp only [List.length_append,List.length_cons,List.length_nil]
    omega
  rw [if_neg k2]
  by_cases k3:e.kind=3
  · rw [if_pos k3]
    simp only [List.length_append,List.length_cons,List.length_nil]
    omega
  rw [if_neg k3]
  by_cases k4:e.kind=4
  · rw [if_pos k4]
    simp only [List.length_append,List.length_cons,List.length_nil]
    omega
  rw [if_neg k4]
  by_cases k6:e.kind=6
  · rw [if_pos k6]
    simp only [List.length_append,List.length_cons,List.length_nil]
    omega
  rw [if_neg k6]
  by_cases k5:e.kind=5
  · rw [if_pos k5]
    by_cases kf:e.fin=true
    · rw [if_pos kf]
      simp only [List.length_cons,List.length_nil]
      omega
    · rw [if_neg kf]
      simp only [List.length_cons,List.length_nil]
      omega
  rw [if_neg k5]
  by_cases k7:e.kind=7
  · rw [if_pos k7]
    by_cases kf:e.fin=true
    · rw [if_pos kf]
      simp only [List.length_cons,List.length_nil]
      omega
    · rw [if_neg kf]
      simp only [List.length_append,List.length_cons,List.length_nil]
      omega
  rw [if_neg k7]
  by_cases k9:e.kind=9
  · rw [if_pos k9]
    simp only [List.length_append,List.length_cons,List.length_nil]
    omega
  rw [if_neg k9]
  by_cases k10:e.kind=10
  · rw [if_pos k10]
    simp only [List.length_cons,List.length_nil]
    omega
  rw [if_neg k10]
  by_cases k11:e.kind=11
  · rw [if_pos k11]
    simp only [List.length_cons,List.length_nil]
    omega
  rw [if_neg k11]
  omega
theorem page_snoc (l:List Ev) (e:Ev):pageS (l++[e])=pageS l++htmlS e:=by simp [pageS]
theorem page_len (l:List Ev) (M:Nat) (h:∀ e ∈ l,e.text.length≤M):(pageS l).length≤(6 * M+32) * l.length:=by
  induction l with
  | nil=>simp [pageS]
  | cons e l ih =>
    have h1:=html_len e
    have h2:=h e (by simp)
    have h3:=ih (fun x hx=>h x (by simp [hx]))
    simp only [pageS,List.flatMap_cons,List.length_append,List.length_cons] at h3 ⊢
    rw [Nat.mul_succ]
    omega
set_option maxRecDepth 100000 in
set_option maxHeartbeats 4000000 in
theorem rpage_any (t:List UInt8) (w:World) (ht:t.length≤8192) :
    Calls Tryz.prog 25 #[.string ⟨t.toArray⟩] w fun e w'=>e=.returned (.string ⟨(pageS (eventsS t)).toArray⟩)∧Below w.heap.size w w':=by
  have c1:=revents_any t w ht
  have hfa:=events_facts t
  have hln:=events_many t ht
  have c2:Calls Tryz.prog 51 #[.string ⟨t.toArray⟩] w fun e w'=>∃ a cap,e=.returned (.slice a (eventsS t).length cap)∧(∀ (j:Nat) u,(evCs (eventsS t))[j]?=some u→∃ g,a=some ⟨g,0,none⟩∧g < w'.heap.size∧w'.cell? ⟨g,j,none⟩=some u)∧Below w.heap.size w w':=by
    refine c1.mono ?_
    rintro e w' ⟨v,rfl,own,b⟩
    rcases Joins.ownsRow_forms own with ⟨rfl,h0⟩ | ⟨g,cap,rfl⟩
    · refine ⟨none,0,by rw [h0],fun j u hu=>?_,b⟩
      rw [List.eq_nil_of_length_eq_zero h0] at hu
      simp [evCs] at hu
    · refine ⟨some ⟨g,0,none⟩,cap,rfl,fun j u hu=>⟨g,rfl,(own.lt g rfl).2,?_⟩,b⟩
      have:=own.cells (g:=g) rfl j u hu
      rw [Addr.add_lit] at this
      simpa using this
  generalize eventsS t=evs at c2 hfa hln ⊢
  obtain ⟨R,hR⟩:∃ R,pageS evs=R:=⟨_,rfl⟩
  rw [hR]
  have HR:Hid (pageS evs=R):=hR
  have HFA:Hid (∀ e ∈ evs,Lev e∧e.text.length≤8193):=fun e he=>⟨(hfa e he).1,by have:=(hfa e he).2;omega⟩
  clear c1 hfa hR
  go_enter Tryz.func25,Tryz.ntmps25
  go_wp2_with (go_at_call 51;refine c2.mono ?_;rintro e w1 ⟨a,cap,rfl,hcell,b1⟩)
  have HCE:Hid _:=hcell
  clear hcell
  go_loopw [4,5] (fun v4 v5 wr=>∃ (k:Nat) (acc:List UInt8),k≤evs.length∧v5=.int .i64 k∧v4=.string ⟨acc.toArray⟩∧Below w1.heap.size w1 wr∧Hid (acc=pageS (evs.take k))∧acc.length≤49190 * k) (fun _ v5 _=>evs.length - (intOf v5).toNat)
  case atStart=>exact ⟨0,[],Nat.zero_le _,rfl,rfl,Below.refl _ _,(by show _=_;rfl),Nat.le_refl _⟩
  case round =>
    obtain ⟨k,acc,hk,rfl,rfl,hbel,HA,hal⟩:=hrel
    have hs1:=size_of acc
    by_cases hlt:k < evs.length
    · obtain ⟨ev,hev⟩:∃ ev,evs[k]?=some ev:=⟨evs[k],List.getElem?_eq_getElem hlt⟩
      obtain ⟨q0,q1,q2,q3⟩:=evCs_at evs k ev hev
      obtain ⟨g,rfl,hg,k0⟩:=HCE.out _ _ q0
      obtain ⟨g1,e1,_,k1⟩:=HCE.out _ _ q1
      cases e1
      obtain ⟨g2,e2,_,k2⟩:=HCE.out _ _ q2
      cases e2
      obtain ⟨g3,e3,_,k3⟩:=HCE.out _ _ q3
      cases e3
      have d0:=(hbel.cell (p:=⟨g,k * 4,none⟩) hg).trans k0
      have d1:=(hbel.cell (p:=⟨g,k * 4+1,none⟩) hg).trans k1
      have d2:=(hbel.cell (p:=⟨g,k * 4+2,none⟩) hg).trans k2
      have d3:=(hbel.cell (p:=⟨g,k * 4+3,none⟩) hg).trans k3
      obtain ⟨hv,htx⟩:=HFA.out ev (List.mem_of_getElem? hev)
      have cH:=rhtml_any ev wr (by omega) hv.1
      have hhl:=html_len ev
      have hhz:=size_of (htmlS ev)
      have HA2:Hid (acc++htmlS ev=pageS (evs.take (k+1))):=by
        show _=_
        have:evs.take (k+1)=evs.take k++[ev]:=by rw [List.take_add_one,hev];rfl
        rw [this,page_snoc,← HA.out]
      have HBA:Hid ((⟨acc.toArray⟩:ByteArray)++⟨(htmlS ev).toArray⟩=⟨(acc++htmlS ev).toArray⟩):=ba_app acc (htmlS ev)
      generalize htmlS ev=hh at cH hhl hhz HA2 HBA
      have hal2:(acc++hh).length≤49190 * (k+1):=by rw [List.length_append];omega
      clear q0 q1 q2 q3 hev k0 k1 k2 k3
      go_wp2_with (go_at_call 53;refine cH.mono ?_;rintro e w2 ⟨rfl,b2⟩)
      go_roundw
      case rel=>exact ⟨k+1,acc++hh,by omega,by go_num,by rw [HBA.out],hbel.trans (b2.mono hbel.size),HA2,hal2⟩
      case measure=>simp [intOf];omega
    · have HF:Hid (acc=R):=by
        show _=_
        rw [HA.out,← HR.out,List.take_of_length_le (by omega)]
      go_wp2
      go_ret
      rw [← HF.out]
      exact ⟨rfl,b1.trans (hbel.mono b1.size)⟩
end Go.Proofs.YtljcljipppjnoaaGreatDoor
