import Derived.Test.YtljcljipppjnoaaGreatDoorJA18
import Derived.Test.YtljcljipppjnoaaGreatDoorJA21
import Derived.Test.YtljcljipppjnoaaGreatDoorJA22
import Derived.Deep.RegionHeld3
namespace Go.Proofs.YtljcljipppjnoaaGreatDoor
open Go.RowKit
def RestV (g:Nat) (ls:List (List UInt8)) (W:World) (v:Value):Prop:=∃ o cap,v=.slice (some ⟨g,o,none⟩) ls.length cap∧Strs g o cap ls W
theorem rest_at {g o cap:Nat} {ls:List (List UInt8)} {W:World} (h:Strs g o cap ls W) (n:Nat) (hn:n≤ls.length):RestV g (ls.drop n) W (.slice (some ⟨g,o+n,none⟩) (ls.length - n) (cap - n)) :=
  ⟨o+n,cap - n,by rw [List.length_drop],h.drop n hn⟩
theorem rest_no {g o cap:Nat} {ls:List (List UInt8)} {W:World} (h:Strs g o cap ls W) (n:Nat) (hn:n≤ls.length) (hc:cap≤n):RestV g (ls.drop n) W (.slice (some ⟨g,o,none⟩) (ls.length - n) 0):=by
  have:=h.fits
  exact ⟨o,0,by rw [List.length_drop],(h.drop n hn).none o _ (by rw [List.length_drop];omega)⟩
set_option maxRecDepth 100000 in
set_option maxHeartbeats 1000000 in
theorem span_any (p:Option Addr) (ln cp a n:Nat) (d:Int) (W:World) (ha:a+n≤4294967296) :
    Calls Tryz.prog 155 #[.agg #[.slice p ln cp,.int .i64 a,.int .i64 d],.int .i64 n] W fun e w'=>e=.returned (.agg #[.int .i64 a,.int .i64 ((a:Int)+(n:Int))])∧Below W.heap.size W w':=by
  go_enter Tryz.func155,Tryz.ntmps155
  go_wp2
  exact bodyPost_ret (v:=.agg #[.int .i64 a,.int .i64 ((a:Int)+(n:Int))]) (by simp [results,Tryz.results155,go_sem]) rfl ⟨rfl,((Below.refl _ W).alloc (Nat.le_refl _) _).alloc (by simp) _⟩
set_option maxRecDepth 100000 in
set_option maxHeartbeats 1000000 in
theorem within_any (p p2:Option Addr) (ln cp ln2 cp2 a:Nat) (d:Int) (hd:0≤d∧d < 3) (W:World) :
    Calls Tryz.prog 158 #[.agg #[.slice p ln cp,.int .i64 a,.int .i64 d],.slice p2 ln2 cp2] W fun e w'=>e=.returned (.agg #[.slice p2 ln2 cp2,.int .i64 a,.int .i64 (d+1)])∧Below W.heap.size W w':=by
  obtain ⟨hd1,hd2⟩:=hd
  go_enter Tryz.func158,Tryz.ntmps158
  go_wp2
  exact bodyPost_ret (v:=.agg #[.slice p2 ln2 cp2,.int .i64 a,.int .i64 (d+1)]) (by simp [results,Tryz.results158,go_sem]) rfl ⟨rfl,((Below.refl _ W).alloc (Nat.le_refl _) _).alloc (by simp) _⟩
set_option maxRecDepth 100000 in
set_option maxHeartbeats 1000000 in
theorem behind_any (g o cap a n:Nat) (ls:List (List UInt8)) (d:Int) (W:World) (hS:Strs g o cap ls W) (hn:n≤ls.length) (ha:a+n≤4294967296) :
    Calls Tryz.prog 107 #[.agg #[.slice (some ⟨g,o,none⟩) ls.length cap,.int .i64 a,.int .i64 d],.int .i64 n] W fun e w'=>∃ o1 cap1,e=.returned (.agg #[.slice (some ⟨g,o1,none⟩) (ls.drop n).length cap1,.int .i64 ((a:Int)+(n:Int)),.int .i64 d])∧Strs g o1 cap1 (ls.drop n) W∧Below W.heap.size W w':=by
  have hfit:=hS.fits
  have hmax:=hS.max
  have H1:Hid (RestV g (ls.drop n) W (.slice (some ⟨g,o+n,none⟩) (ls.length - n) (cap - n))):=rest_at hS n hn
  have H2:Hid (cap≤n→RestV g (ls.drop n) W (.slice (some ⟨g,o,none⟩) (ls.length - n) 0)):=fun h=>rest_no hS n hn h
  clear hS
  generalize ls.drop n=rs at H1 H2 ⊢
  generalize ls.length=L at *
  go_enter Tryz.func107,Tryz.ntmps107
  go_wp2
  go_region
  all_goals go_wp2
  · obtain ⟨o1,cap1,he,hs⟩:=H2.out (by omega)
    exact bodyPost_ret (v:=.agg #[.slice (some ⟨g,o,none⟩) (L - n) 0,.int .i64 ((a:Int)+(n:Int)),.int .i64 d]) (by simp [results,Tryz.results107,go_sem]) rfl ⟨o1,cap1,by rw [he],hs,(((Below.refl _ W).alloc (Nat.le_refl _) _).alloc (by simp) _).drew⟩
  · obtain ⟨o1,cap1,he,hs⟩:=H1.out
    exact bodyPost_ret (v:=.agg #[.slice (some ⟨g,o+n,none⟩) (L - n) (cap - n),.int .i64 ((a:Int)+(n:Int)),.int .i64 d]) (by simp [results,Tryz.results107,go_sem]) rfl ⟨o1,cap1,by rw [he],hs,(((Below.refl _ W).alloc (Nat.le_refl _) _).alloc (by simp) _).drew⟩
def fiV (q:Tel):Value:=.agg #[.func (.func q.kd) #[] #[.pointer (some ⟨q.bd,0,none⟩)],.func (.func q.kl) #[] #[.pointer (some ⟨q.bl,0,none⟩)]]
end Go.Proofs.YtljcljipppjnoaaGreatDoor
namespace Go.Proofs.YtljcljipppjnoaaGreatDoor
open Go.RowKit
set_option maxRecDepth 100000 in
set_option maxHeartbeats 2000000 in
theorem inLeaf_any (q:Tel) (hq:q.Ok) (acc:List Stp) (t:List UInt8) (x y bt bf ba:Nat) (W:World) (hT:q.Told acc W) (hlen:acc.length≤1099511627776)
    (h1:W.heap[bt]?=some (.cells #[.string ⟨t.toArray⟩] 9 (0,0))) (h2:W.heap[bf]?=some (.cells #[.func (.func q.kd) #[] #[.pointer (some ⟨q.bd,0,none⟩)],.func (.func q.kl) #[] #[.pointer (some ⟨q.bl,0,none⟩)]] 159 (0,0))) (h3:W.heap[ba]?=some (.cells #[.int .i64 x,.int .i64 y] 119 (0,0))) :
    Calls Tryz.prog 180 #[.pointer (some ⟨bt,0,none⟩),.pointer (some ⟨bf,0,none⟩),.pointer (some ⟨ba,0,none⟩)] W fun e w'=>e=.returned (.tuple #[])∧q.Told (acc++(if t=[] then [] else [.leaf t x y])) w'∧Kt q none W.heap.size W w':=by
  have c1:=cell_of_one h1
  have c2:=cell_of_row W bf 0 _ _ _ h2
  have c3:=cell_of_row W bf 1 _ _ _ h2
  have c4:=cell_of_row W ba 0 _ _ _ h3
  have c5:=cell_of_row W ba 1 _ _ _ h3
  simp at c2 c3 c4 c5
  clear h1 h2 h3
  have hl:(⟨t.toArray⟩:ByteArray).toList=t:=by rw [list_of]
  have ek:=hq.el
  by_cases h:t=[]
  · subst h
    rw [if_pos rfl,List.append_nil]
    clear hq
    go_enter Tryz.func180,Tryz.ntmps180
    go_wp2
    go_end0
    exact ⟨rfl,hT,Kt.refl _ _ _ _⟩
  · rw [if_neg h]
    have hc:=hq.lfc acc t x y W hT h hlen
    have hne:(!t.isEmpty)=true:=by
      cases t with
      | nil=>exact absurd rfl h
      | cons a b=>rfl
    clear hT hq
    go_enter Tryz.func180,Tryz.ntmps180
    go_wp2_with (go_at_fn q.kl;refine hc.mono ?_;rintro e w1 ⟨rfl,T1,K1⟩)
    go_end0
    exact ⟨rfl,T1,K1⟩
set_option maxRecDepth 100000 in
set_option maxHeartbeats 2000000 in
theorem withLeaf_any (q:Tel) (hq:q.Ok) (acc:List Stp) (kind level:Int) (t:List UInt8) (x y:Nat) (W:World) (hT:q.Told acc W) (hlen:acc.length+2≤1099511627776) :
    Calls Tryz.prog 154 #[.agg #[.func (.func q.kd) #[] #[.pointer (some ⟨q.bd,0,none⟩)],.func (.func q.kl) #[] #[.pointer (some ⟨q.bl,0,none⟩)]],.agg #[.int .i64 kind,.bool false,.int .i64 level,.string ⟨#[]⟩],.string ⟨t.toArray⟩,.agg #[.int .i64 x,.int .i64 y]] W fun e w'=>e=.returned (.tuple #[])∧q.Told (acc++([.ev ⟨kind,false,level,[]⟩]++(if t=[] then [] else [.leaf t x y])++[.ev ⟨kind,true,level,[]⟩])) w'∧Kt q none W.heap.size W w':=by
  have hmf:∀ (fn:Fn) (first cap:Array Value) (w:World),(Instr.makeFunc fn first cap).run Tryz.prog w=.ok (.func fn first cap) w:=fun _ _ _ _=>rfl
  obtain ⟨o1,h1⟩:∃ o,o=Obj.cells #[.func (.func q.kd) #[] #[.pointer (some ⟨q.bd,0,none⟩)],.func (.func q.kl) #[] #[.pointer (some ⟨q.bl,0,none⟩)]] 159 (0,0):=⟨_,rfl⟩
  obtain ⟨o2,h2⟩:∃ o,o=Obj.cells #[.int .i64 kind,.bool false,.int .i64 level,.string ⟨#[]⟩] 92 (0,0):=⟨_,rfl⟩
  obtain ⟨o3,h3⟩:∃ o,o=Obj.cells #[.string ⟨t.toArray⟩] 9 (0,0):=⟨_,rfl⟩
  obtain ⟨o4,h4⟩:∃ o,o=Obj.cells #[.int .i64 x,.int .i64 y] 119 (0,0):=⟨_,rfl⟩
  obtain ⟨W4,hW4⟩:∃ W4,(((W.alloc o1).alloc o2).alloc o3).alloc o4=W4:=⟨_,rfl⟩
  have hB4:Below W.heap.size W W4:=by rw [← hW4];exact ((((Below.refl _ W).alloc (Nat.le_refl _) _).alloc (by simp) _).alloc (by simp <;> omega) _).alloc (by simp <;> omega) _
  have z4:W4.heap.size=W.heap.size+4:=by rw [← hW4];simp
  have e1:(W.alloc o1).heap.size=W.heap.size+1:=by simp
  have e2:((W.alloc o1).alloc o2).heap.size=W.heap.size+2:=by simp
  have e3:(((W.alloc o1).alloc o2).alloc o3).heap.size=W.heap.size+3:=by simp
  have x1:W4.heap[W.heap.size]?=some o1:=by
    rw [← hW4]
    exact heap_al _ _ (by omega) (heap_al _ _ (by omega) (heap_al _ _ (by omega) (heap_alloc_new W o1)))
  have x3:W4.heap[W.heap.size+2]?=some o3:=by
    rw [← hW4,← e2]
    exact heap_al _ _ (by omega) (heap_alloc_new _ o3)
  have x4:W4.heap[W.heap.size+3]?=some o4:=by
    rw [← hW4,← e3]
    exact heap_alloc_new _ o4
  have hml:∀ mid:List Stp,mid=(if t=[] then [] else [.leaf t x y])→mid.length≤1:=by
    intro mid hmid
    rw [hmid]
    split <;> simp
  have hc:=twithin_any q hq none acc (fun mid=>mid=(if t=[] then [] else [.leaf t x y])) 1 hml ⟨kind,false,level,[]⟩ 180 #[.pointer (some ⟨W.heap.size+2,0,none⟩),.pointer (some ⟨W.heap.size,0,none⟩),.pointer (some ⟨W.heap.size+3,0,none⟩)] W4 (fun _=>True) (enters_of Tryz.func180 (by kernel_rfl) rfl) (hq.below hT hB4) (by omega) (fun g hg=>by cases hg)
    (fun W' hT' hK'=>(inLeaf_any q hq (acc++[.ev ⟨kind,false,level,[]⟩]) t x y (W.heap.size+2) W.heap.size (W.heap.size+3) W' hT' (by rw [List.length_append,List.length_singleton];omega)
      ((hK'.block _ (by omega) (by simp) (hq.new hT hB4 (by omega))).trans (h3 ▸ x3)) ((hK'.block _ (by omega) (by simp) (hq.new hT hB4 (by omega))).trans (h1 ▸ x1)) ((hK'.block _ (by omega) (by simp) (hq.new hT hB4 (by omega))).trans (h4 ▸ x4))).mono fun e w' h=>⟨h.1,_,rfl,h.2.1,h.2.2,trivial⟩)
    (fun _ _ _ _=>trivial)
  have hc2:Calls Tryz.prog 152 #[.agg #[.int .i64 kind,.bool false,.int .i64 level,.string ⟨#[]⟩],.func (.func q.kd) #[] #[.pointer (some ⟨q.bd,0,none⟩)],.func (.func 180) #[] #[.pointer (some ⟨W.heap.size+1+1,0,none⟩),.pointer (some ⟨W.heap.size,0,none⟩),.pointer (some ⟨W.heap.size+1+1+1,0,none⟩)]] ((((W.alloc o1).alloc o2).alloc o3).alloc o4) fun e w'=>e=.returned (.tuple #[])∧q.Told (acc++([.ev ⟨kind,false,level,[]⟩]++(if t=[] then [] else [.leaf t x y])++[.ev ⟨kind,true,level,[]⟩])) w'∧Kt q none W.heap.size W w':=by
    rw [hW4]
    refine hc.mono ?_
    rintro e w' ⟨rfl,mid,rfl,T,K,_⟩
    exact ⟨rfl,T,(hq.kt hT hB4).trans (K.mono (by omega))⟩
  rw [h1,h2,h3,h4] at hc2
  clear hc x1 x3 x4 hB4 z4 e1 e2 e3 hW4 h1 h2 h3 h4 hT hq hml
  generalize acc++([Stp.ev ⟨kind,false,level,[]⟩]++(if t=[] then [] else [.leaf t x y])++[.ev ⟨kind,true,level,[]⟩])=res at hc2 ⊢
  go_enter Tryz.func154,Tryz.ntmps154
  go_wp2_with (go_at_call 152;refine hc2.mono ?_;rintro e w1 ⟨rfl,T1,K1⟩)
  go_end0
  exact ⟨rfl,T1,K1⟩
theorem Obj.fi (q:Tel) (v a d:Value) (W w':World) (hb:Below (W.heap.size+1+1) ((W.alloc (.cells #[.func (.func q.kd) #[] #[.pointer (some ⟨q.bd,0,none⟩)],.func (.func q.kl) #[] #[.pointer (some ⟨q.bl,0,none⟩)]] 159)).alloc (.cells #[v,a,d] 162)) w') :
    w'.heap[W.heap.size]?=some (.cells #[.func (.func q.kd) #[] #[.pointer (some ⟨q.bd,0,none⟩)],.func (.func q.kl) #[] #[.pointer (some ⟨q.bl,0,none⟩)]] 159 (0,0))∧w'.heap[W.heap.size+1]?=some (.cells #[v,a,d] 162 (0,0))∧Below W.heap.size W w':=by
  have e1:(W.alloc (.cells #[.func (.func q.kd) #[] #[.pointer (some ⟨q.bd,0,none⟩)],.func (.func q.kl) #[] #[.pointer (some ⟨q.bl,0,none⟩)]] 159)).heap.size=W.heap.size+1:=by simp
  refine ⟨(hb.block _ (by omega)).trans (heap_al _ _ (by omega) (heap_alloc_new W _)),(hb.block _ (by omega)).trans ?_,(((Below.refl _ W).alloc (Nat.le_refl _) _).alloc (by omega) _).trans (hb.mono (by omega))⟩
  have:=heap_alloc_new (W.alloc (.cells #[.func (.func q.kd) #[] #[.pointer (some ⟨q.bd,0,none⟩)],.func (.func q.kl) #[] #[.pointer (some ⟨q.bl,0,none⟩)]] 159)) (.cells #[v,a,d] 162)
  rw [e1] at this
  exact this
theorem cells2 {w:World} {b:Nat} {x y:Value} {T:TypeId} (h:w.heap[b]?=some (.cells #[x,y] T (0,0))):w.cell? ⟨b,0,none⟩=some x∧w.cell? ⟨b,1,none⟩=some y:=by
  have c1:=cell_of_row w b 0 _ _ _ h
  have c2:=cell_of_row w b 1 _ _ _ h
  simp at c1 c2
  exact ⟨c1,c2⟩
theorem cells3 {w:World} {b:Nat} {x y z:Value} {T:TypeId} (h:w.heap[b]?=some (.cells #[x,y,z] T (0,0))):w.cell? ⟨b,0,none⟩=some x∧w.cell? ⟨b,1,none⟩=some y∧w.cell? ⟨b,2,none⟩=some z:=by
  have c1:=cell_of_row w b 0 _ _ _ h
  have c2:=cell_of_row w b 1 _ _ _ h
  have c3:=cell_of_row w b 2 _ _ _ h
  simp at c1 c2 c3
  exact ⟨c1,c2,c3⟩
theorem fp_frame (q:Tel) (hq:q.Ok) (acc:List Stp) (W:World) (hT:q.Told acc W) (v a d:Value) :
    ∃ W2,((W.alloc (.cells #[.func (.func q.kd) #[] #[.pointer (some ⟨q.bd,0,none⟩)],.func (.func q.kl) #[] #[.pointer (some ⟨q.bl,0,none⟩)]] 159)).alloc (.cells #[v,a,d] 162))=W2∧W2.heap.size=W.heap.size+1+1 ∧
      (∀ w',Below W2.heap.size W2 w'→(((w'.cell? ⟨W.heap.size,0,none⟩=some (.func (.func q.kd) #[] #[.pointer (some ⟨q.bd,0,none⟩)])∧w'.cell? ⟨W.heap.size,1,none⟩=some (.func (.func q.kl) #[] #[.pointer (some ⟨q.bl,0,none⟩)]))∧(w'.cell? ⟨W.heap.size+1,0,none⟩=some v∧w'.cell? ⟨W.heap.size+1,1,none⟩=some a∧w'.cell? ⟨W.heap.size+1,2,none⟩=some d))∧Below W.heap.size W w'∧q.Told acc w'∧∀ b,W.heap.size≤b→¬ q.Own w' b)) ∧
      (∀ w2 w3,Below W2.heap.size W2 w2→Kt q none W2.heap.size w2 w3→((w3.cell? ⟨W.heap.size,0,none⟩=some (.func (.func q.kd) #[] #[.pointer (some ⟨q.bd,0,none⟩)])∧w3.cell? ⟨W.heap.size,1,none⟩=some (.func (.func q.kl) #[] #[.pointer (some ⟨q.bl,0,none⟩)]))∧(w3.cell? ⟨W.heap.size+1,0,none⟩=some v∧w3.cell? ⟨W.heap.size+1,1,none⟩=some a∧w3.cell? ⟨W.heap.size+1,2,none⟩=some d))∧Kt q none W.heap.size W w3):=by
  refine ⟨_,rfl,by simp,?_,?_⟩
  · intro w' hb
    rw [show ((W.alloc (.cells #[.func (.func q.kd) #[] #[.pointer (some ⟨q.bd,0,none⟩)],.func (.func q.kl) #[] #[.pointer (some ⟨q.bl,0,none⟩)]] 159)).alloc (.cells #[v,a,d] 162)).heap.size=W.heap.size+1+1 by simp] at hb
    obtain ⟨x1,x2,x3⟩:=Obj.fi q v a d W w' hb
    exact ⟨⟨cells2 x1,cells3 x2⟩,x3,hq.below hT x3,fun b hb=>hq.new hT x3 hb⟩
  · intro w2 w3 hb hk
    rw [show ((W.alloc (.cells #[.func (.func q.kd) #[] #[.pointer (some ⟨q.bd,0,none⟩)],.func (.func q.kl) #[] #[.pointer (some ⟨q.bl,0,none⟩)]] 159)).alloc (.cells #[v,a,d] 162)).heap.size=W.heap.size+1+1 by simp] at hb hk
    obtain ⟨x1,x2,x3⟩:=Obj.fi q v a d W w2 hb
    have h1:=lt_of_block x1
    have h2:=lt_of_block x2
    have h3:=x3.size
    exact ⟨⟨cells2 ((hk.block _ (by omega) (by simp) (hq.new hT x3 (by omega))).trans x1),cells3 ((hk.block _ (by omega) (by simp) (hq.new hT x3 (by omega))).trans x2)⟩,(hq.kt hT x3).trans (hk.mono (by omega))⟩
set_option maxRecDepth 100000 in
set_option maxHeartbeats 2000000 in
theorem dheading_any (q:Tel) (hq:q.Ok) (acc:List Stp) (g o cap a:Nat) (d:Int) (l:List UInt8) (r:List (List UInt8)) (W:World) (hT:q.Told acc W) (hlen:acc.length+2≤1099511627776) (hS:Strs g o cap (l :: r) W) (hO:¬ q.Own W g) (hl:l.length≤1073741824) (ha:a+1≤4294967296) :
    Calls Tryz.prog 130 #[.agg #[.func (.func q.kd) #[] #[.pointer (some ⟨q.bd,0,none⟩)],.func (.func q.kl) #[] #[.pointer (some ⟨q.bl,0,none⟩)]],.agg #[.slice (some ⟨g,o,none⟩) (r.length+1) cap,.int .i64 a,.int .i64 d]] W fun e w' =>
      e=.returned (.int .i64 1)∧(∃ S,SpOk a (a+1) S (leafS 1 (levelL l) (trimL (l.drop (levelL l))))∧q.Told (acc++S) w')∧Kt q none W.heap.size W w':=by
  have hcell:=hS.cell 0 l rfl
  rw [Nat.add_zero] at hcell
  have hglt:=hS.lt
  have hfit:=hS.fits
  rw [List.length_cons] at hfit
  have hmax:=hS.max
  have hcL:=fun W=>dlevel_any ⟨l.toArray⟩ W (by rw [size_of];omega)
  have hlv:levelS ⟨l.toArray⟩=levelL l:=rfl
  have hle:=level_le l
  rw [hlv] at hcL
  generalize levelL l=k at hcL hle ⊢
  have hx:=ba_ext l k l.length rfl
  have hs2:=size_of l
  have hcT:=fun W=>dtrim_any ⟨(l.drop k).toArray⟩ W (by rw [size_of,List.length_drop];omega)
  have hts:trimS ⟨(l.drop k).toArray⟩=⟨(trimL (l.drop k)).toArray⟩:=rfl
  rw [hts,← hx] at hcT
  generalize trimL (l.drop k)=tl at hcT hts ⊢
  have hcP:=fun W=>span_any (some ⟨g,o,none⟩) (r.length+1) cap a 1 d W ha
  have hcF:∀ W (_:q.Told acc W),Calls Tryz.prog 154 #[.agg #[.func (.func q.kd) #[] #[.pointer (some ⟨q.bd,0,none⟩)],.func (.func q.kl) #[] #[.pointer (some ⟨q.bl,0,none⟩)]],.agg #[.int .i64 1,.bool false,.int .i64 k,.string ⟨#[]⟩],.string ⟨tl.toArray⟩,.agg #[.int .i64 a,.int .i64 ((a:Int)+((1:Nat):Int))]] W _:=fun W h=>withLeaf_any q hq acc 1 k tl a (a+1) W h hlen
  have HSp:Hid (SpOk a (a+1) ([.ev ⟨1,false,k,[]⟩]++(if tl=[] then [] else [.leaf tl a (a+1)])++[.ev ⟨1,true,k,[]⟩]) (leafS 1 k tl)):=SpOk.leaf a 1 (Nat.le_refl _) 1 k tl (by decide) (by decide)
  generalize ([Stp.ev ⟨1,false,k,[]⟩]++(if tl=[] then [] else [.leaf tl a (a+1)])++[.ev ⟨1,true,k,[]⟩])=S at hcF HSp
  obtain ⟨W2,hW2⟩:∃ W2,((W.alloc (.cells #[.func (.func q.kd) #[] #[.pointer (some ⟨q.bd,0,none⟩)],.func (.func q.kl) #[] #[.pointer (some ⟨q.bl,0,none⟩)]] 159)).alloc (.cells #[.slice (some ⟨g,o,none⟩) (r.length+1) cap,.int .i64 a,.int .i64 d] 162))=W2:=⟨_,rfl⟩
  have z2:W2.heap.size=W.heap.size+1+1:=by rw [← hW2];simp
  have hfi:=fun w'=>Obj.fi q (.slice (some ⟨g,o,none⟩) (r.length+1) cap) (.int .i64 a) (.int .i64 d) W w'
  rw [hW2,← z2] at hfi
  have hcs:∀ w':World,(w'.heap[W.heap.size]?=some (.cells #[.func (.func q.kd) #[] #[.pointer (some ⟨q.bd,0,none⟩)],.func (.func q.kl) #[] #[.pointer (some ⟨q.bl,0,none⟩)]] 159 (0,0)))→(w'.heap[W.heap.size+1]?=some (.cells #[.slice (some ⟨g,o,none⟩) (r.length+1) cap,.int .i64 a,.int .i64 d] 162 (0,0)))→w'.heap[g]?=W.heap[g]?→(w'.cell? ⟨W.heap.size,0,none⟩=some (.func (.func q.kd) #[] #[.pointer (some ⟨q.bd,0,none⟩)])∧w'.cell? ⟨W.heap.size,1,none⟩=some (.func (.func q.kl) #[] #[.pointer (some ⟨q.bl,0,none⟩)]))∧(w'.cell? ⟨W.heap.size+1,0,none⟩=some (.slice (some ⟨g,o,none⟩) (r.length+1) cap)∧w'.cell? ⟨W.heap.size+1,1,none⟩=some (.int .i64 a)∧w'.cell? ⟨W.heap.size+1,2,none⟩=some (.int .i64 d))∧w'.cell? ⟨g,o,none⟩=some (.string ⟨l.toArray⟩) :=
    fun w' x1 x2 x3=>⟨cells2 x1,cells3 x2,(World.cell?_of_block (w:=W) x3:w'.cell? ⟨g,o,none⟩=W.cell? ⟨g,o,none⟩).trans hcell⟩
  have HK:Hid (∀ w',Below W2.heap.size W2 w'→_):=fun w' hb=>hcs w' (hfi w' hb).1 (hfi w' hb).2.1 ((hfi w' hb).2.2.block g hglt)
  have HK3:Hid (∀ w2 w3,Below W2.heap.size W2 w2→Kt q none w2.heap.size w2 w3→_):=fun w2 w3 hb hk=>hcs w3
    ((hk.block _ (by have:=hb.size;omega) (by simp) (hq.new hT (hfi w2 hb).2.2 (by omega))).trans (hfi w2 hb).1) ((hk.block _ (by have:=hb.size;omega) (by simp) (hq.new hT (hfi w2 hb).2.2 (by omega))).trans (hfi w2 hb).2.1) ((hk.block g (by have:=hb.size;omega) (by simp) (hq.off hT (hfi w2 hb).2.2 hO)).trans ((hfi w2 hb).2.2.block g hglt))
  have HF:Hid (∀ w2,Below W2.heap.size W2 w2→_):=fun w2 hb=>hcF w2 (hq.below hT (hfi w2 hb).2.2)
  have HE:Hid (∀ w2 w3,Below W2.heap.size W2 w2→Kt q none w2.heap.size w2 w3→Kt q none W.heap.size W w3):=fun w2 w3 hb hk=>(hq.kt hT (hfi w2 hb).2.2).trans (hk.mono (by have:=(hfi w2 hb).2.2.size;omega))
  have hB0:Below W2.heap.size W2 W2.drew:=(Below.refl _ W2).drew
  obtain ⟨⟨k1,k2⟩,⟨k3,k4,k5⟩,k6⟩:=HK.out W2 (Below.refl _ W2)
  clear hS hT hts hlv hx hcF hq hfi hcs hO
  go_enter Tryz.func130,Tryz.ntmps130
  go_wp2_with (go_at_call 148;refine (hcL _).mono ?_;rintro e w' ⟨rfl,hw⟩;rw [hw];clear hw)
  go_region_held3 (fun w'=>(w'.cell? ⟨W.heap.size,0,none⟩=some (.func (.func q.kd) #[] #[.pointer (some ⟨q.bd,0,none⟩)])∧w'.cell? ⟨W.heap.size,1,none⟩=some (.func (.func q.kl) #[] #[.pointer (some ⟨q.bl,0,none⟩)]))∧(w'.cell? ⟨W.heap.size+1,0,none⟩=some (.slice (some ⟨g,o,none⟩) (r.length+1) cap)∧w'.cell? ⟨W.heap.size+1,1,none⟩=some (.int .i64 a)∧w'.cell? ⟨W.heap.size+1,2,none⟩=some (.int .i64 d))∧w'.cell? ⟨g,o,none⟩=some (.string ⟨l.toArray⟩)) (first | exact HK3.out _ _ B2 K3 | exact HK.out _ B2 | exact HK.out _ B1 | exact HK.out _ hB0) (first | (go_at_call 146;refine (hcT _).mono ?_;rintro e w1 ⟨rfl,b1⟩;have B1:Below W2.heap.size W2 w1:=hB0.trans b1) | (go_at_call 155;refine (hcP _).mono ?_;rintro e w2 ⟨rfl,b2⟩;have B2:Below W2.heap.size W2 w2:=B1.trans (b2.mono B1.size)) | (go_at_call 154;refine (HF.out _ B2).mono ?_;rintro e w3 ⟨rfl,T3,K3⟩))
  go_wp2
  go_ret
  exact ⟨rfl,⟨S,HSp.out,T3⟩,HE.out _ _ B2 K3⟩
end Go.Proofs.YtljcljipppjnoaaGreatDoor
namespace Go.Proofs.YtljcljipppjnoaaGreatDoor
open Go.RowKit Go.Shelf
theorem Tryz.Builder_Extra_156:Builder.Extra Tryz.prog Tryz.lays156_ren:={
  sizeBuilder:=by kernel_rfl
  liesBuilder:=by kernel_rfl
  t5:=Tryz.underlying5
  a5:=Tryz.isAgg5
  z5:=Tryz.sizeOf5
  v5:=Tryz.zeroValue5
  infoByte:=by kernel_rfl
  cellsByte:=by kernel_rfl
  sizeByte:=by kernel_rfl
  neB5:=by decide }
theorem sh_join (bk o c:Nat) (xs:List ByteArray) (w:World)
    (hcells:∀ (j:Nat) x,xs[j]?=some x→w.cell? ⟨bk,o+j,none⟩=some (.string x))
    (hbk:bk < w.heap.size) (hN:xs.length≤140737488355328) (hcap:xs.length≤c)
    (hlen:(Lib.join (xs.map (·.data.toList)) [10]).length≤140737488355328) :
    Calls Tryz.prog 162 #[.slice (some ⟨bk,o,none⟩) xs.length c,.string ⟨#[10]⟩] w fun e w'=>e=.returned (.string ⟨(Lib.join (xs.map (·.data.toList)) [10]).toArray⟩)∧Below w.heap.size w w' :=
  Any.strings_Join Tryz.lays156 Tryz.Builder_Extra_156 bk o c xs ⟨#[10]⟩ w hcells hbk hN hcap hlen
theorem join_own (bk c:Nat) (ls:List (List UInt8)) (B:Nat) (w:World) (h:w.ownsRow B 9 1 (.slice (some ⟨bk,0,none⟩) ls.length c) ls.length (strCs (ls.map trimL))) (hM:tot ls≤1073741824) :
    Calls Tryz.prog 162 #[.slice (some ⟨bk,0,none⟩) ls.length c,.string ⟨#[10]⟩] w fun e w'=>e=.returned (.string ⟨(joinT ls).toArray⟩)∧Below w.heap.size w w':=by
  have hx:(ls.map fun l=>(⟨(trimL l).toArray⟩:ByteArray)).length=ls.length:=by simp
  have hj:Lib.join ((ls.map fun l=>(⟨(trimL l).toArray⟩:ByteArray)).map (·.data.toList)) [10]=joinT ls:=by
    rw [joinT_join,List.map_map]
    rfl
  have hl:=joinT_len ls
  have ht:=tot_len ls
  have hnc:ls.length≤c:=by
    rcases h.2 with ⟨hh,_⟩ | ⟨g',cap',cur,hv,_,_,hnc,_⟩
    · cases hh
    · cases hv;exact hnc
  have hc:=sh_join bk 0 c (ls.map fun l=>(⟨(trimL l).toArray⟩:ByteArray)) w (fun j x hj=>by
      have:=h.cells (g:=bk) rfl j (.string x) (by
        rw [strCs,List.map_map,List.getElem?_map]
        rw [List.getElem?_map] at hj
        cases hl:ls[j]? with
        | none=>rw [hl] at hj;cases hj
        | some a=>rw [hl] at hj;simp at hj;subst hj;rfl)
      rw [Addr.add_lit] at this
      exact this) ((h.lt bk rfl).2) (by rw [hx];omega) (by rw [hx];exact hnc) (by rw [hj];omega)
  rw [hx,hj] at hc
  exact hc
theorem kind_zero (s:ByteArray) (d:Int):kindOf (startsS s d)=0 ↔ startsS s d=0:=by
  have h1:startsS s d=0∨startsS s d=2∨startsS s d=3∨startsS s d=4∨startsS s d=5:=by
    unfold startsS
    split
    · simp
    split
    · simp
    split
    · simp
    split <;> simp
  rcases h1 with h | h | h | h | h <;> rw [h] <;> decide
theorem drop_facts {ls rs:List (List UInt8)} {l:List UInt8} {k:Nat} (h:l :: rs=ls.drop k):∃ hk:k < ls.length,ls[k]=l∧ls.drop (k+1)=rs:=by
  have hk:k < ls.length:=by
    rcases Nat.lt_or_ge k ls.length with hk | hk
    · exact hk
    · rw [List.drop_eq_nil_iff.2 hk] at h;cases h
  rw [List.drop_eq_getElem_cons hk] at h
  injection h with h1 h2
  exact ⟨hk,h1.symm,h2.symm⟩
set_option maxRecDepth 100000 in
set_option maxHeartbeats 4000000 in
theorem dpara_any (q:Tel) (hq:q.Ok) (acc:List Stp) (depth:Int) (g o cap a:Nat) (ls:List (List UInt8)) (W:World) (hT:q.Told acc W) (hlen:acc.length+2≤1099511627776) (hS:Strs g o cap ls W) (hM:tot ls≤1073741824) (h1:1≤paraFrom ls depth 0) (ha:a+ls.length≤4294967296) :
    Calls Tryz.prog 133 #[.agg #[.func (.func q.kd) #[] #[.pointer (some ⟨q.bd,0,none⟩)],.func (.func q.kl) #[] #[.pointer (some ⟨q.bl,0,none⟩)]],.agg #[.slice (some ⟨g,o,none⟩) ls.length cap,.int .i64 a,.int .i64 depth]] W fun e w' =>
      e=.returned (.int .i64 ((paraFrom ls depth 0:Nat):Int))∧(∃ S,SpOk a (a+paraFrom ls depth 0) S (leafS 0 0 (joinT (ls.take (paraFrom ls depth 0))))∧q.Told (acc++S) w')∧Kt q none W.heap.size W w':=by
  obtain ⟨i0,hi,hz0,hz1,hz2⟩:=info_parts Tryz.infoStr
  have hglt:=hS.lt
  have hll:=tot_len ls
  have hfit:=hS.fits
  have hmax:=hS.max
  obtain ⟨W2,hW2,z2,hK,hK3⟩:=fp_frame q hq acc W hT (.slice (some ⟨g,o,none⟩) ls.length cap) (.int .i64 a) (.int .i64 depth)
  obtain ⟨⟨⟨k1,k2⟩,⟨k3,k4,k5⟩⟩,hb02,_⟩:=hK W2 (Below.refl _ W2)
  have HM:Hid (tot ls≤1073741824):=hM
  have HK:Hid _:=hK
  have HK3:Hid _:=hK3
  have HS0:Hid (Strs g o cap ls W2):=hS.below hb02 hglt
  have HQ:Hid q.Ok:=hq
  obtain ⟨pf,hpf⟩:∃ pf,paraFrom ls depth 0=pf:=⟨_,rfl⟩
  have hpl:pf≤ls.length:=by rw [← hpf];exact (scan_le (stays depth) ls 0 (Nat.zero_le _)).1
  rw [hpf] at h1 ⊢
  obtain ⟨jt,hjt⟩:∃ jt,joinT (ls.take pf)=jt:=⟨_,rfl⟩
  rw [hjt]
  have HJT:Hid (joinT (ls.take pf)=jt):=hjt
  have HSp:Hid (SpOk a (a+pf) ([.ev ⟨0,false,0,[]⟩]++(if jt=[] then [] else [.leaf jt a (a+pf)])++[.ev ⟨0,true,0,[]⟩]) (leafS 0 0 jt)):=SpOk.leaf a pf h1 0 0 jt (by decide) (by decide)
  have HF:Hid (∀ w6,Below W2.heap.size W2 w6→Calls Tryz.prog 154 #[.agg #[.func (.func q.kd) #[] #[.pointer (some ⟨q.bd,0,none⟩)],.func (.func q.kl) #[] #[.pointer (some ⟨q.bl,0,none⟩)]],.agg #[.int .i64 0,.bool false,.int .i64 0,.string ⟨#[]⟩],.string ⟨jt.toArray⟩,.agg #[.int .i64 a,.int .i64 ((a:Int)+(pf:Int))]] w6 _):=fun w6 hb=>withLeaf_any q hq acc 0 0 jt a (a+pf) w6 (hK w6 hb).2.2.1 hlen
  generalize ([Stp.ev ⟨0,false,0,[]⟩]++(if jt=[] then [] else [.leaf jt a (a+pf)])++[.ev ⟨0,true,0,[]⟩])=S at HF HSp
  have hcP:=fun W=>span_any (some ⟨g,o,none⟩) ls.length cap a pf depth W (by omega)
  clear hT hS hq hK hK3 hjt
  have hg2:g < W2.heap.size:=by omega
  have z3:W2.heap.size≤W.heap.size+2∧W.heap.size+2≤W2.heap.size:=by omega
  clear z2
  go_enter Tryz.func133,Tryz.ntmps133
  go_wp2
  go_loopw [5,11] (fun v5 i wr=>∃ k:Nat,k≤ls.length∧i=.int .i64 k∧wr.ownsRow W2.heap.size 9 1 v5 k (strCs ((ls.take k).map trimL))∧Below W2.heap.size W2 wr∧Hid (paraFrom ls depth k=pf)) (fun _ i _=>ls.length - (intOf i).toNat)
  case atStart=>exact ⟨0,Nat.zero_le _,rfl,(by simpa [strCs] using World.ownsRow_nil _ _ _ _),Below.refl _ _,hpf⟩
  case round =>
    clear hpf
    obtain ⟨k,hk,rfl,hown,hbel,HP⟩:=hrel
    have hbs:=hbel.size
    have hgwr:g < wr.heap.size:=by omega
    obtain ⟨⟨⟨r1,r2⟩,⟨r3,r4,r5⟩⟩,_⟩:=HK.out wr hbel
    have hfin:pf=k→∃ gl cl,u5=.slice (some ⟨gl,0,none⟩) k cl∧Hid (∀ w',Below wr.heap.size wr w'→Calls Tryz.prog 162 #[.slice (some ⟨gl,0,none⟩) k cl,.string ⟨#[10]⟩] w' fun e w''=>e=.returned (.string ⟨jt.toArray⟩)∧Below w'.heap.size w' w''):=by
      intro hk
      have hlt:(ls.take k).length=k:=by rw [List.length_take];omega
      rcases Joins.ownsRow_forms hown with ⟨rfl,h0⟩ | ⟨gl,cl,rfl⟩
      · omega
      · refine ⟨gl,cl,rfl,?_⟩
        intro w' hb
        have:=join_own gl cl (ls.take k) W2.heap.size w' (by rw [hlt];exact own_below hown hb (Nat.le_refl _)) (Nat.le_trans (tot_take ls k) HM.out)
        rw [hlt] at this
        rw [← HJT.out,hk]
        exact this
    by_cases hlt:k < ls.length
    · obtain ⟨l,hlk⟩:∃ l,ls[k]=l:=⟨_,rfl⟩
      have hcell:=(HS0.out.below hbel hg2).cell k l (by rw [List.getElem?_eq_getElem hlt,hlk])
      have hsz:l.length≤1073741824:=Nat.le_trans (tot_mem (by rw [← hlk];exact List.getElem_mem hlt)) HM.out
      have hcB:=fun W=>dblank_any ⟨l.toArray⟩ W (by rw [size_of];omega)
      have hcS:=fun W=>dbegins_any ⟨l.toArray⟩ depth W (by rw [size_of];omega)
      have hcT:=fun W=>dtrim_any ⟨l.toArray⟩ W (by rw [size_of];omega)
      have hbl:blankS ⟨l.toArray⟩=blankL l:=rfl
      have htr:trimS ⟨l.toArray⟩=⟨(trimL l).toArray⟩:=rfl
      have hkz:=kind_zero ⟨l.toArray⟩ depth
      have hst:stays depth l=(!blankL l && decide (startsS ⟨l.toArray⟩ depth=0)):=rfl
      rw [hbl] at hcB
      rw [htr] at hcT
      have HTK:Hid (strCs ((ls.take (k+1)).map trimL)=strCs ((ls.take k).map trimL)++[.string ⟨(trimL l).toArray⟩]):=by
        show _=_
        rw [snoc_take ls k hlt,hlk]
        simp [strCs]
      generalize hbv:blankL l=bv at hcB hst
      generalize hsv:startsS ⟨l.toArray⟩ depth=sv at hcS hst hkz
      generalize hkv:kindOf sv=kv at hcS hkz
      generalize trimL l=tl at hcT HTK htr
      clear hbl htr hkv hsv hbv
      cases bv with
      | true =>
        have hkk:pf=k:=by
          rw [← HP.out]
          exact para_at ls depth k hlt (by rw [hlk,hst];rfl)
        obtain ⟨gl,cl,rfl,HJ⟩:=hfin hkk
        subst hkk
        clear h1 hown hst hkz hcS hcT HTK hfin hlk
        go_wp2_with (go_at_call 127;refine (hcB _).mono ?_;rintro e w1 ⟨rfl,b1⟩)
        have hBj:Below wr.heap.size wr w1.drew:=b1.drew
        have hBT:Below W2.heap.size W2 w1.drew:=hbel.trans (hBj.mono hbs)
        go_region_held3 (fun w'=>(w'.cell? ⟨W.heap.size,0,none⟩=some (.func (.func q.kd) #[] #[.pointer (some ⟨q.bd,0,none⟩)])∧w'.cell? ⟨W.heap.size,1,none⟩=some (.func (.func q.kl) #[] #[.pointer (some ⟨q.bl,0,none⟩)]))∧(w'.cell? ⟨W.heap.size+1,0,none⟩=some (.slice (some ⟨g,o,none⟩) ls.length cap)∧w'.cell? ⟨W.heap.size+1,1,none⟩=some (.int .i64 a)∧w'.cell? ⟨W.heap.size+1,2,none⟩=some (.int .i64 depth))) (first | exact (HK3.out _ _ B6 (K7.mono B6.size)).1 | exact (HK.out _ B6).1 | exact (HK.out _ B4).1 | exact (HK.out _ hBT).1) (first | (go_at_call 162;refine (HJ.out _ hBj).mono ?_;rintro e w4 ⟨rfl,b4⟩;have B4:Below W2.heap.size W2 w4:=hBT.trans (b4.mono hBT.size)) | (go_at_call 155;refine (hcP _).mono ?_;rintro e w6 ⟨rfl,b6⟩;have B6:Below W2.heap.size W2 w6:=B4.trans (b6.mono B4.size)) | (go_at_call 154;refine (HF.out _ B6).mono ?_;rintro e w7 ⟨rfl,T7,K7⟩))
        go_wp2
        go_ret
        exact ⟨rfl,⟨S,HSp.out,T7⟩,(HK3.out _ _ B6 (K7.mono B6.size)).2⟩
      | false =>
        by_cases hs0:sv=0
        · have hkv:kv=0:=hkz.2 hs0
          subst hkv
          have HP2:Hid (paraFrom ls depth (k+1)=pf):=by
            show _=_
            rw [← para_lt ls depth k hlt (by rw [hlk,hst,hs0];rfl),HP.out]
          clear hst hkz hfin hs0
          go_wp2_with (first | (go_at_call 127;refine (hcB _).mono ?_;rintro e w1 ⟨rfl,b1⟩;have c1:=(b1.cell (p:=⟨W.heap.size+1,2,none⟩) (by show W.heap.size+1 < wr.heap.size;omega)).trans r5) | (go_at_call 128;refine (hcS _).mono ?_;rintro e w' ⟨rfl,hw⟩;rw [hw];clear hw) | (go_at_call 146;refine (hcT _).mono ?_;rintro e w2 ⟨rfl,b2⟩;have hown2:=own_below (own_below hown b1 (Nat.le_refl _)) b2 (Nat.le_refl _)) | (at_builtin;refine wpList_append_own _ rfl _ _ 25 rfl W2.heap.size 9 i0 (.string ⟨#[]⟩) 1 16 Tryz.underlying25 hi hz0 hz1 hz2 rfl (by decide) _ _ _ rfl (hown2.alloc _) ⟨w2.heap.size,0,none⟩ 1 1 [.string ⟨tl.toArray⟩] rfl rfl ?d1 ?d2 ?d3 ?d4 ?d5 ?_))
          case d1 =>
            intro j u hj
            match j,hj with
            | 0,hj=>simp at hj;subst hj;simp [Addr.add]
          case d2=>intro u hu;simp at hu;subst hu;rfl
          case d3=>unfold maxLen;omega
          case d4=>omega
          case d5=>have:=b1.size;have:=b2.size;simp;omega
          intro v' w3 own3 grow3 _
          have s1:=b1.size
          have s2:=b2.size
          have hb2:Below W2.heap.size W2 w2:=(hbel.trans (b1.mono hbs)).trans (b2.mono (by omega))
          have hb3:Below W2.heap.size W2 w3:=(hb2.alloc (by omega) _).grown grow3 (by simp;omega) (fun b hb=>(hown2.lt b hb).1)
          have hown3:w3.ownsRow W2.heap.size 9 1 v' (k+1) (strCs ((ls.take (k+1)).map trimL)):=by
            rw [HTK.out]
            simpa [strCs] using own3
          clear own3 grow3 hown2 hown
          go_wp2
          go_roundw
          case rel=>exact ⟨k+1,by omega,by go_num,hown3,hb3,HP2⟩
          case measure=>simp [intOf];omega
        · have hkk:pf=k:=by
            rw [← HP.out]
            exact para_at ls depth k hlt (by rw [hlk,hst];simpa using hs0)
          obtain ⟨gl,cl,rfl,HJ⟩:=hfin hkk
          subst hkk
          have hk0:(kv == 0)=false:=by
            rw [beq_eq_false_iff_ne]
            exact fun h=>hs0 (hkz.1 h)
          clear h1 hown hst hkz hcT HTK hfin hlk hs0
          go_wp2_with (first | (go_at_call 127;refine (hcB _).mono ?_;rintro e w1 ⟨rfl,b1⟩;have c1:=(b1.cell (p:=⟨W.heap.size+1,2,none⟩) (by show W.heap.size+1 < wr.heap.size;omega)).trans r5) | (go_at_call 128;refine (hcS _).mono ?_;rintro e w' ⟨rfl,hw⟩;rw [hw];clear hw))
          have hBj:Below wr.heap.size wr w1.drew:=b1.drew
          have hBT:Below W2.heap.size W2 w1.drew:=hbel.trans (hBj.mono hbs)
          go_region_held3 (fun w'=>(w'.cell? ⟨W.heap.size,0,none⟩=some (.func (.func q.kd) #[] #[.pointer (some ⟨q.bd,0,none⟩)])∧w'.cell? ⟨W.heap.size,1,none⟩=some (.func (.func q.kl) #[] #[.pointer (some ⟨q.bl,0,none⟩)]))∧(w'.cell? ⟨W.heap.size+1,0,none⟩=some (.slice (some ⟨g,o,none⟩) ls.length cap)∧w'.cell? ⟨W.heap.size+1,1,none⟩=some (.int .i64 a)∧w'.cell? ⟨W.heap.size+1,2,none⟩=some (.int .i64 depth))) (first | exact (HK3.out _ _ B6 (K7.mono B6.size)).1 | exact (HK.out _ B6).1 | exact (HK.out _ B4).1 | exact (HK.out _ hBT).1) (first | (go_at_call 162;refine (HJ.out _ hBj).mono ?_;rintro e w4 ⟨rfl,b4⟩;have B4:Below W2.heap.size W2 w4:=hBT.trans (b4.mono hBT.size)) | (go_at_call 155;refine (hcP _).mono ?_;rintro e w6 ⟨rfl,b6⟩;have B6:Below W2.heap.size W2 w6:=B4.trans (b6.mono B4.size)) | (go_at_call 154;refine (HF.out _ B6).mono ?_;rintro e w7 ⟨rfl,T7,K7⟩))
          go_wp2
          go_ret
          exact ⟨rfl,⟨S,HSp.out,T7⟩,(HK3.out _ _ B6 (K7.mono B6.size)).2⟩
    · have hke:k=ls.length:=by omega
      have hkk:pf=k:=by
        rw [← HP.out]
        exact para_end ls depth k (by omega)
      obtain ⟨gl,cl,rfl,HJ⟩:=hfin hkk
      subst hkk
      have hnl:¬ (pf:Int) < (ls.length:Int):=by omega
      clear h1 hown hfin hke hk hlt
      go_wp2
      have hBj:Below wr.heap.size wr wr.drew:=(Below.refl _ wr).drew
      have hBT:Below W2.heap.size W2 wr.drew:=hbel.trans (hBj.mono hbs)
      go_region_held3 (fun w'=>(w'.cell? ⟨W.heap.size,0,none⟩=some (.func (.func q.kd) #[] #[.pointer (some ⟨q.bd,0,none⟩)])∧w'.cell? ⟨W.heap.size,1,none⟩=some (.func (.func q.kl) #[] #[.pointer (some ⟨q.bl,0,none⟩)]))∧(w'.cell? ⟨W.heap.size+1,0,none⟩=some (.slice (some ⟨g,o,none⟩) ls.length cap)∧w'.cell? ⟨W.heap.size+1,1,none⟩=some (.int .i64 a)∧w'.cell? ⟨W.heap.size+1,2,none⟩=some (.int .i64 depth))) (first | exact (HK3.out _ _ B6 (K7.mono B6.size)).1 | exact (HK.out _ B6).1 | exact (HK.out _ B4).1 | exact (HK.out _ hBT).1) (first | (go_at_call 162;refine (HJ.out _ hBj).mono ?_;rintro e w4 ⟨rfl,b4⟩;have B4:Below W2.heap.size W2 w4:=hBT.trans (b4.mono hBT.size)) | (go_at_call 155;refine (hcP _).mono ?_;rintro e w6 ⟨rfl,b6⟩;have B6:Below W2.heap.size W2 w6:=B4.trans (b6.mono B4.size)) | (go_at_call 154;refine (HF.out _ B6).mono ?_;rintro e w7 ⟨rfl,T7,K7⟩))
      go_wp2
      go_ret
      exact ⟨rfl,⟨S,HSp.out,T7⟩,(HK3.out _ _ B6 (K7.mono B6.size)).2⟩
end Go.Proofs.YtljcljipppjnoaaGreatDoor
namespace Go.Proofs.YtljcljipppjnoaaGreatDoor
open Go.RowKit Go.Shelf
def EachC (q:Tel) (d:Int) (f:List (List UInt8)→List Ev):Prop :=
  ∀ (acc:List Stp) (v:Value) (ls:List (List UInt8)) (a:Nat) (W:World),q.Told acc W→LinesV v ls W→(∀ g,v.ownBlock=some g→¬ q.Own W g)→tot ls≤1073741824→a+ls.length≤4294967296→(acc.length:Int)+16 * (ls.length:Int)+4 * (4 - d)≤1099511627776 →
    Calls Tryz.prog 83 #[.agg #[.func (.func q.kd) #[] #[.pointer (some ⟨q.bd,0,none⟩)],.func (.func q.kl) #[] #[.pointer (some ⟨q.bl,0,none⟩)]],.agg #[v,.int .i64 a,.int .i64 d]] W fun e w'=>e=.returned (.tuple #[])∧(∃ S,SpOk a (a+ls.length) S (f ls)∧q.Told (acc++S) w')∧Kt q none W.heap.size W w'
set_option maxRecDepth 100000 in
set_option maxHeartbeats 2000000 in
theorem inBlocks_any (q:Tel) (f:List (List UInt8)→List Ev) (d:Int) (hE:EachC q d f) (acc:List Stp) (bf bi a:Nat) (v:Value) (ls:List (List UInt8)) (W:World) (hT:q.Told acc W) (hL:LinesV v ls W) (hO:∀ g,v.ownBlock=some g→¬ q.Own W g) (hM:tot ls≤1073741824) (ha:a+ls.length≤4294967296) (hlen:(acc.length:Int)+16 * (ls.length:Int)+4 * (4 - d)≤1099511627776)
    (h1:W.heap[bf]?=some (.cells #[.func (.func q.kd) #[] #[.pointer (some ⟨q.bd,0,none⟩)],.func (.func q.kl) #[] #[.pointer (some ⟨q.bl,0,none⟩)]] 159 (0,0))) (h2:W.heap[bi]?=some (.cells #[v,.int .i64 a,.int .i64 d] 162 (0,0))) :
    Calls Tryz.prog 182 #[.pointer (some ⟨bf,0,none⟩),.pointer (some ⟨bi,0,none⟩)] W fun e w'=>e=.returned (.tuple #[])∧(∃ S,SpOk a (a+ls.length) S (f ls)∧q.Told (acc++S) w')∧Kt q none W.heap.size W w':=by
  obtain ⟨c1,c2⟩:=cells2 h1
  obtain ⟨c3,c4,c5⟩:=cells3 h2
  have hc:=hE acc v ls a W hT hL hO hM ha hlen
  clear hE hT hO h1 h2
  rcases hL with ⟨rfl,rfl⟩ | ⟨g,o,cap,rfl,hS⟩
  all_goals
    go_enter Tryz.func182,Tryz.ntmps182
    go_wp2_with (go_at_call 83;refine hc.mono ?_;rintro e w1 ⟨rfl,⟨S,hS1,T1⟩,K1⟩)
    go_end0
    exact ⟨rfl,⟨S,hS1,T1⟩,K1⟩
set_option maxRecDepth 100000 in
set_option maxHeartbeats 2000000 in
theorem withBlocks_any (q:Tel) (hq:q.Ok) (f:List (List UInt8)→List Ev) (d:Int) (hE:EachC q d f) (kind:Int) (acc:List Stp) (a:Nat) (v:Value) (ls:List (List UInt8)) (W:World) (hfl:(f ls).length≤16 * ls.length) (hT:q.Told acc W) (hL:LinesV v ls W) (hO:∀ g,v.ownBlock=some g→¬ q.Own W g) (hM:tot ls≤1073741824) (ha:a+ls.length≤4294967296) (hlen:(acc.length:Int)+1+16 * (ls.length:Int)+4 * (4 - d)≤1099511627776) (hd:d≤4) :
    Calls Tryz.prog 157 #[.agg #[.func (.func q.kd) #[] #[.pointer (some ⟨q.bd,0,none⟩)],.func (.func q.kl) #[] #[.pointer (some ⟨q.bl,0,none⟩)]],.int .i64 kind,.agg #[v,.int .i64 a,.int .i64 d]] W fun e w'=>e=.returned (.tuple #[])∧(∃ S,SpOk a (a+ls.length) S (f ls)∧q.Told (acc++([.ev ⟨kind,false,0,[]⟩]++S++[.ev ⟨kind,true,0,[]⟩])) w')∧Kt q none W.heap.size W w':=by
  have hmf:∀ (fn:Fn) (first cap:Array Value) (w:World),(Instr.makeFunc fn first cap).run Tryz.prog w=.ok (.func fn first cap) w:=fun _ _ _ _=>rfl
  obtain ⟨W2,hW2⟩:∃ W2,((W.alloc (.cells #[.func (.func q.kd) #[] #[.pointer (some ⟨q.bd,0,none⟩)],.func (.func q.kl) #[] #[.pointer (some ⟨q.bl,0,none⟩)]] 159)).alloc (.cells #[v,.int .i64 a,.int .i64 d] 162))=W2:=⟨_,rfl⟩
  have z2:W2.heap.size=W.heap.size+1+1:=by rw [← hW2];simp
  obtain ⟨x1,x2,x3⟩:=Obj.fi q v (.int .i64 a) (.int .i64 d) W W2 (by rw [hW2,← z2];exact Below.refl _ _)
  have hc:=twithin_any q hq none acc (fun S=>SpOk a (a+ls.length) S (f ls)) (16 * ls.length) (fun S hS=>by rw [hS.len];exact hfl) ⟨kind,false,0,[]⟩ 182 #[.pointer (some ⟨W.heap.size,0,none⟩),.pointer (some ⟨W.heap.size+1,0,none⟩)] W2 (fun _=>True) (enters_of Tryz.func182 (by kernel_rfl) rfl) (hq.below hT x3) (by omega) (fun g' hg'=>by cases hg')
    (fun W' hT' hK'=>by
      have hnew:∀ b,W.heap.size≤b→¬ q.Own W2 b:=fun b hb=>hq.new hT x3 hb
      have hL2:LinesV v ls W':=by
        rcases hL with h | ⟨g,o,cap,rfl,hS⟩
        · exact Or.inl h
        · exact Or.inr ⟨g,o,cap,rfl,(hS.below x3 hS.lt).kept hK' (by have:=hS.lt;omega) (by simp) (hq.off hT x3 (hO g rfl))⟩
      refine (inBlocks_any q f d hE (acc++[.ev ⟨kind,false,0,[]⟩]) W.heap.size (W.heap.size+1) a v ls W' hT' hL2 ?_ hM ha (by rw [List.length_append,List.length_singleton];omega) ((hK'.block _ (by omega) (by simp) (hnew _ (by omega))).trans x1) ((hK'.block _ (by omega) (by simp) (hnew _ (by omega))).trans x2)).mono ?_
      · intro g hg
        rcases hL with ⟨_,rfl⟩ | ⟨g',o,cap,rfl,hS⟩
        · cases hg
        · injection hg with hg
          subst hg
          exact hK'.off (by have:=hS.lt;show g' < _;omega) (hq.off hT x3 (hO g' rfl))
      · rintro e w' ⟨rfl,⟨S,h1,h2⟩,h3⟩
        exact ⟨rfl,S,h1,h2,h3,trivial⟩)
    (fun _ _ _ _=>trivial)
  have hc2:Calls Tryz.prog 152 #[.agg #[.int .i64 kind,.bool false,.int .i64 0,.string ⟨#[]⟩],.func (.func q.kd) #[] #[.pointer (some ⟨q.bd,0,none⟩)],.func (.func 182) #[] #[.pointer (some ⟨W.heap.size,0,none⟩),.pointer (some ⟨W.heap.size+1,0,none⟩)]] W2 fun e w'=>e=.returned (.tuple #[])∧(∃ S,SpOk a (a+ls.length) S (f ls)∧q.Told (acc++([.ev ⟨kind,false,0,[]⟩]++S++[.ev ⟨kind,true,0,[]⟩])) w')∧Kt q none W.heap.size W w':=by
    refine hc.mono ?_
    rintro e w' ⟨rfl,S,h1,h2,h3,_⟩
    exact ⟨rfl,⟨S,h1,h2⟩,(hq.kt hT x3).trans (h3.mono (by omega))⟩
  obtain ⟨k1,k2⟩:=cells2 x1
  obtain ⟨k3,k4,k5⟩:=cells3 x2
  clear hc hT hq x1 x2 x3 hE hO
  rcases hL with ⟨rfl,rfl⟩ | ⟨g,o,cap,rfl,hS⟩
  all_goals
    go_enter Tryz.func157,Tryz.ntmps157
    go_wp2_with (go_at_call 152;refine hc2.mono ?_;rintro e w1 ⟨rfl,T1,K1⟩)
    go_end0
    exact ⟨rfl,T1,K1⟩
end Go.Proofs.YtljcljipppjnoaaGreatDoor
namespace Go.Proofs.YtljcljipppjnoaaGreatDoor
open Go.RowKit Go.Shelf
theorem str_cell (w:World) (t:ByteArray) {n:Nat} (hn:n=w.heap.size):∀ j u,[Value.string t][j]?=some u→(w.alloc (.cells #[.string t] 9)).cell? ((⟨n,0,none⟩:Addr).add j)=some u:=by
  subst hn
  intro j u hj
  match j,hj with
  | 0,hj=>simp at hj;subst hj;simp [Addr.add]
theorem str_one (t:ByteArray):∀ u ∈ [Value.string t],u.oneCell'=true:=by
  intro u hu
  simp at hu
  subst hu
  rfl
theorem quote_one (l:List UInt8) (r:List (List UInt8)) (h:beginsS ⟨l.toArray⟩ ⟨#[62]⟩=true):1≤quoteN (l :: r):=by
  have he:quoteN (l :: r)=scan isQ (l :: r) 1:=scan_lt isQ (l :: r) 0 (by simp) (begins_q l h)
  have hs:=scan_le isQ (l :: r) 1 (by simp)
  omega
set_option maxRecDepth 100000 in
set_option maxHeartbeats 4000000 in
theorem dquote_any (q:Tel) (hq:q.Ok) (f:List (List UInt8)→List Ev) (d:Int) (hd:0≤d∧d < 3) (hE:EachC q (d+1) f) (hfl:∀ ls,(f ls).length≤16 * ls.length) (acc:List Stp) (g o cap a:Nat) (ls:List (List UInt8)) (W:World) (hT:q.Told acc W) (hlen:(acc.length:Int)+16 * (ls.length:Int)+4 * (4 - d)≤1099511627776) (hS:Strs g o cap ls W) (hM:tot ls≤1073741824) (h1:1≤quoteN ls) (ha:a+ls.length≤4294967296) :
    Calls Tryz.prog 131 #[.agg #[.func (.func q.kd) #[] #[.pointer (some ⟨q.bd,0,none⟩)],.func (.func q.kl) #[] #[.pointer (some ⟨q.bl,0,none⟩)]],.agg #[.slice (some ⟨g,o,none⟩) ls.length cap,.int .i64 a,.int .i64 d]] W fun e w' =>
      e=.returned (.int .i64 ((quoteN ls:Nat):Int))∧(∃ S,SpOk a (a+quoteN ls) S (quoteS f ls)∧q.Told (acc++S) w')∧Kt q none W.heap.size W w':=by
  obtain ⟨i0,hi,hz0,hz1,hz2⟩:=info_parts Tryz.infoStr
  have hglt:=hS.lt
  have hll:=tot_len ls
  have hfit:=hS.fits
  have hmax:=hS.max
  have hd1:=hd.1
  have hd2:=hd.2
  obtain ⟨W2,hW2,z2,hK,hK3⟩:=fp_frame q hq acc W hT (.slice (some ⟨g,o,none⟩) ls.length cap) (.int .i64 a) (.int .i64 d)
  obtain ⟨⟨⟨k1,k2⟩,⟨k3,k4,k5⟩⟩,hb02,_⟩:=hK W2 (Below.refl _ W2)
  have HM:Hid (tot ls≤1073741824):=hM
  have HK:Hid _:=hK
  have HK3:Hid _:=hK3
  have HS0:Hid (Strs g o cap ls W2):=hS.below hb02 hglt
  have hpl:quoteN ls≤ls.length:=(scan_le isQ ls 0 (Nat.zero_le _)).1
  have hql:(quoteIn ls).length=quoteN ls:=by rw [quoteIn,List.length_map,List.length_take];omega
  have z3:W2.heap.size≤W.heap.size+2∧W.heap.size+2≤W2.heap.size:=by omega
  have HW:Hid (∀ (v:Value) (w4:World),Below W2.heap.size W2 w4→w4.ownsRow W2.heap.size 9 1 v (quoteIn ls).length (strCs (quoteIn ls))→Calls Tryz.prog 157 #[.agg #[.func (.func q.kd) #[] #[.pointer (some ⟨q.bd,0,none⟩)],.func (.func q.kl) #[] #[.pointer (some ⟨q.bl,0,none⟩)]],.int .i64 2,.agg #[v,.int .i64 a,.int .i64 (d+1)]] w4 fun e w'=>e=.returned (.tuple #[])∧(∃ S,SpOk a (a+quoteN ls) S (quoteS f ls)∧q.Told (acc++S) w')∧Kt q none w4.heap.size w4 w'):=by
    intro v w4 hb ho
    refine (withBlocks_any q hq f (d+1) hE 2 acc a v (quoteIn ls) w4 (hfl _) (hK w4 hb).2.2.1 (lines_own ho) (fun g' hg'=>(hK w4 hb).2.2.2 g' (by have:=(ho.lt g' hg').1;omega)) (Nat.le_trans (tot_quote ls) hM) (by omega) (by omega) (by omega)).mono ?_
    rintro e w' ⟨rfl,⟨S,s1,s2⟩,s3⟩
    rw [hql] at s1
    exact ⟨rfl,⟨_,s1.within ⟨2,false,0,[]⟩ ⟨2,true,0,[]⟩ (by decide) (by decide),s2⟩,s3⟩
  have hcP:=fun gl ln2 cl W'=>within_any (some ⟨g,o,none⟩) (some ⟨gl,0,none⟩) ls.length cap ln2 cl a d hd W'
  clear hT hS hq hK hK3 hE hfl hd
  have hg2:g < W2.heap.size:=by omega
  obtain ⟨qn,hqn⟩:∃ qn,quoteN ls=qn:=⟨_,rfl⟩
  rw [hqn] at h1 HW ⊢
  generalize hqs:quoteS f ls=qs at HW ⊢
  have HQS:Hid (qn=(quoteIn ls).length):=by show _=_;rw [hql,hqn]
  have HQI:Hid (quoteIn ls=(ls.take qn).map unq):=by show _=_;rw [quoteIn,hqn]
  clear z2 hqs hql
  go_enter Tryz.func131,Tryz.ntmps131
  go_wp2
  go_loopw [5,11] (fun v5 i wr=>∃ k:Nat,k≤ls.length∧i=.int .i64 k∧wr.ownsRow W2.heap.size 9 1 v5 k (strCs ((ls.take k).map unq))∧Below W2.heap.size W2 wr∧Hid (scan isQ ls k=qn)) (fun _ i _=>ls.length - (intOf i).toNat)
  case atStart=>exact ⟨0,Nat.zero_le _,rfl,(by simpa [strCs] using World.ownsRow_nil _ _ _ _),Below.refl _ _,hqn⟩
  case round =>
    clear hqn
    obtain ⟨k,hk,rfl,hown,hbel,HP⟩:=hrel
    have hbs:=hbel.size
    have hgwr:g < wr.heap.size:=by omega
    obtain ⟨⟨⟨r1,r2⟩,⟨r3,r4,r5⟩⟩,_⟩:=HK.out wr hbel
    have hfin:qn=k→∃ gl cl,u5=.slice (some ⟨gl,0,none⟩) k cl∧Hid (((qn:Nat):Int)=(k:Int))∧Hid (∀ w4,Below W2.heap.size W2 w4→Below wr.heap.size wr w4→Calls Tryz.prog 157 #[.agg #[.func (.func q.kd) #[] #[.pointer (some ⟨q.bd,0,none⟩)],.func (.func q.kl) #[] #[.pointer (some ⟨q.bl,0,none⟩)]],.int .i64 2,.agg #[.slice (some ⟨gl,0,none⟩) k cl,.int .i64 a,.int .i64 (d+1)]] w4 fun e w'=>e=.returned (.tuple #[])∧(∃ S,SpOk a (a+qn) S qs∧q.Told (acc++S) w')∧Kt q none w4.heap.size w4 w'):=by
      intro hk
      rcases Joins.ownsRow_forms hown with ⟨rfl,h0⟩ | ⟨gl,cl,rfl⟩
      · omega
      · refine ⟨gl,cl,rfl,by show _=_;omega,fun w4 hb hb2=>HW.out _ w4 hb ?_⟩
        rw [← HQS.out,HQI.out,hk]
        exact own_below hown hb2 (Nat.le_refl _)
    by_cases hlt:k < ls.length
    · obtain ⟨l,hlk⟩:∃ l,ls[k]=l:=⟨_,rfl⟩
      have hcell:=(HS0.out.below hbel hg2).cell k l (by rw [List.getElem?_eq_getElem hlt,hlk])
      have hcQ:=fun W=>dquoted_any ⟨l.toArray⟩ W
      cases hqq:beginsS ⟨l.toArray⟩ ⟨#[62]⟩ with
      | true =>
        have hcU:=fun W=>dunq_any ⟨l.toArray⟩ W hqq
        have hun:unq (⟨l.toArray⟩:ByteArray).data.toList=unq l:=rfl
        rw [hun] at hcU
        have HTK:Hid (strCs ((ls.take (k+1)).map unq)=strCs ((ls.take k).map unq)++[.string ⟨(unq l).toArray⟩]):=by
          show _=_
          rw [snoc_take ls k hlt,hlk]
          simp [strCs]
        have HP2:Hid (scan isQ ls (k+1)=qn):=by
          show _=_
          rw [← scan_lt isQ ls k hlt (by rw [hlk];exact begins_q l hqq),HP.out]
        generalize unq l=ul at hcU HTK hun
        rw [hqq] at hcQ
        clear hqq hun hfin
        go_wp2_with (first | (go_at_call 149;refine (hcQ _).mono ?_;rintro e w' ⟨rfl,hw⟩;rw [hw];clear hw) | (go_at_call 156;refine (hcU _).mono ?_;rintro e w' ⟨rfl,hw⟩;rw [hw];clear hw) | (at_builtin;refine wpList_append_own _ rfl _ _ 25 rfl W2.heap.size 9 i0 (.string ⟨#[]⟩) 1 16 Tryz.underlying25 hi hz0 hz1 hz2 rfl (by decide) _ _ _ rfl (hown.alloc _) ⟨wr.heap.size,0,none⟩ 1 1 [.string ⟨ul.toArray⟩] rfl rfl (str_cell _ _ rfl) (str_one _) (by unfold maxLen;omega) (by omega) (by simp;omega) ?_;intro v' w3 own3 grow3 _))
        have hb3:Below W2.heap.size W2 w3:=(hbel.alloc (by omega) _).grown grow3 (by simp;omega) (fun b hb=>(hown.lt b hb).1)
        have hown3:w3.ownsRow W2.heap.size 9 1 v' (k+1) (strCs ((ls.take (k+1)).map unq)):=by
          rw [HTK.out]
          exact own3
        clear own3 grow3 hown
        go_roundw
        case rel=>exact ⟨k+1,by omega,by go_num,hown3,hb3,HP2⟩
        case measure=>simp [intOf];omega
      | false =>
        have hkk:qn=k:=by
          rw [← HP.out]
          refine scan_at isQ ls k hlt ?_
          rw [hlk]
          cases l with
          | nil=>rfl
          | cons c t =>
            have h2:((62:UInt8) == c)=false:=by simpa [beginsS,List.isPrefixOf] using hqq
            show (c == 62)=false
            rw [beq_eq_false_iff_ne] at h2 ⊢
            exact fun h=>h2 h.symm
        obtain ⟨gl,cl,rfl,HQN,HJ⟩:=hfin hkk
        rw [hqq] at hcQ
        clear hfin hkk hown hqq h1 HP
        go_wp2_with (go_at_call 149;refine (hcQ _).mono ?_;rintro e w' ⟨rfl,hw⟩;rw [hw];clear hw)
        have hBj:Below wr.heap.size wr wr.drew:=(Below.refl _ wr).drew
        have hBT:Below W2.heap.size W2 wr.drew:=hbel.trans (hBj.mono hbs)
        go_region_held3 (fun w'=>(w'.cell? ⟨W.heap.size,0,none⟩=some (.func (.func q.kd) #[] #[.pointer (some ⟨q.bd,0,none⟩)])∧w'.cell? ⟨W.heap.size,1,none⟩=some (.func (.func q.kl) #[] #[.pointer (some ⟨q.bl,0,none⟩)]))∧(w'.cell? ⟨W.heap.size+1,0,none⟩=some (.slice (some ⟨g,o,none⟩) ls.length cap)∧w'.cell? ⟨W.heap.size+1,1,none⟩=some (.int .i64 a)∧w'.cell? ⟨W.heap.size+1,2,none⟩=some (.int .i64 d))) (first | exact (HK3.out _ _ B4 (K7.mono B4.size)).1 | exact (HK.out _ B4).1 | exact (HK.out _ hBT).1) (first | (go_at_call 158;refine (hcP gl k cl _).mono ?_;rintro e w4 ⟨rfl,b4⟩;have B4:Below W2.heap.size W2 w4:=hBT.trans (b4.mono hBT.size)) | (go_at_call 157;refine (HJ.out _ B4 (hBj.trans (b4.mono hBj.size))).mono ?_;rintro e w7 ⟨rfl,⟨S,hS7,T7⟩,K7⟩))
        go_wp2
        go_ret
        exact ⟨by rw [HQN.out];rfl,⟨_,hS7,T7⟩,(HK3.out _ _ B4 (K7.mono B4.size)).2⟩
    · have hkk:qn=k:=by
        rw [← HP.out]
        exact scan_end isQ ls k (by omega)
      obtain ⟨gl,cl,rfl,HQN,HJ⟩:=hfin hkk
      have hnl:¬ (k:Int) < (ls.length:Int):=by omega
      clear hfin hkk hown h1 HP hk hlt
      go_wp2
      have hBj:Below wr.heap.size wr wr.drew:=(Below.refl _ wr).drew
      have hBT:Below W2.heap.size W2 wr.drew:=hbel.trans (hBj.mono hbs)
      go_region_held3 (fun w'=>(w'.cell? ⟨W.heap.size,0,none⟩=some (.func (.func q.kd) #[] #[.pointer (some ⟨q.bd,0,none⟩)])∧w'.cell? ⟨W.heap.size,1,none⟩=some (.func (.func q.kl) #[] #[.pointer (some ⟨q.bl,0,none⟩)]))∧(w'.cell? ⟨W.heap.size+1,0,none⟩=some (.slice (some ⟨g,o,none⟩) ls.length cap)∧w'.cell? ⟨W.heap.size+1,1,none⟩=some (.int .i64 a)∧w'.cell? ⟨W.heap.size+1,2,none⟩=some (.int .i64 d))) (first | exact (HK3.out _ _ B4 (K7.mono B4.size)).1 | exact (HK.out _ B4).1 | exact (HK.out _ hBT).1) (first | (go_at_call 158;refine (hcP gl k cl _).mono ?_;rintro e w4 ⟨rfl,b4⟩;have B4:Below W2.heap.size W2 w4:=hBT.trans (b4.mono hBT.size)) | (go_at_call 157;refine (HJ.out _ B4 (hBj.trans (b4.mono hBj.size))).mono ?_;rintro e w7 ⟨rfl,⟨S,hS7,T7⟩,K7⟩))
      go_wp2
      go_ret
      exact ⟨by rw [HQN.out];rfl,⟨_,hS7,T7⟩,(HK3.out _ _ B4 (K7.mono B4.size)).2⟩
end Go.Proofs.YtljcljipppjnoaaGreatDoor
namespace Go.Proofs.YtljcljipppjnoaaGreatDoor
open Go.RowKit Go.Shelf
def nb (rs:List (List UInt8)):Nat:=(rs.takeWhile blankL).length
theorem nb_le (rs:List (List UInt8)):nb rs≤rs.length:=(List.takeWhile_sublist (l:=rs) blankL).length_le
theorem nb_behind (ls:List (List UInt8)) (k:Nat):behindS ls k=k+nb (ls.drop k):=rfl
set_option maxRecDepth 100000 in
set_option maxHeartbeats 1000000 in
theorem dblanks_any (g o cap:Nat) (rs:List (List UInt8)) (W:World) (hS:Strs g o cap rs W) (hM:tot rs≤1073741824) :
    Calls Tryz.prog 161 #[.slice (some ⟨g,o,none⟩) rs.length cap] W fun e w'=>e=.returned (.int .i64 (nb rs))∧Below W.heap.size W w':=by
  have hglt:=hS.lt
  have hll:=tot_len rs
  have HS:Hid (Strs g o cap rs W):=hS
  have HM:Hid (tot rs≤1073741824):=hM
  have hnb:nb rs=behindS rs 0:=by rw [nb_behind];simp
  rw [hnb]
  clear hS hnb
  go_enter Tryz.func161,Tryz.ntmps161
  go_wp2
  go_loopw [3] (fun i wr=>∃ k:Nat,k≤rs.length∧i=.int .i64 k∧Below W.heap.size W wr∧Hid (behindS rs k=behindS rs 0)) (fun i _=>rs.length - (intOf i).toNat)
  case atStart=>exact ⟨0,Nat.zero_le _,rfl,Below.refl _ _,(by show _=_;rfl)⟩
  case round =>
    obtain ⟨k,hk,rfl,hbel,HN⟩:=hrel
    have hbs:=hbel.size
    by_cases hlt:k < rs.length
    · obtain ⟨l,hl⟩:∃ l,rs[k]=l:=⟨_,rfl⟩
      have hcell:=(HS.out.below hbel hglt).cell k l (by rw [List.getElem?_eq_getElem hlt,hl])
      have hsz:l.length≤1073741824:=Nat.le_trans (tot_mem (by rw [← hl];exact List.getElem_mem hlt)) HM.out
      have hcB:=fun W=>dblank_any ⟨l.toArray⟩ W (by rw [size_of];omega)
      have hbl:blankS ⟨l.toArray⟩=blankL l:=rfl
      rw [hbl] at hcB
      cases hb:blankL l with
      | true =>
        have HN2:Hid (behindS rs (k+1)=behindS rs 0):=by
          show _=_
          rw [← HN.out]
          exact (behind_lt rs k hlt (by rw [hl];exact hb)).symm
        rw [hb] at hcB
        clear hb hbl hl HN
        go_wp2_with (go_at_call 127;refine (hcB _).mono ?_;rintro e w1 ⟨rfl,b1⟩)
        go_roundw
        case rel=>exact ⟨k+1,by omega,by go_num,hbel.trans (b1.mono hbs),HN2⟩
        case measure=>simp [intOf];omega
      | false =>
        have HF:Hid (behindS rs 0=k):=by
          show _=_
          rw [← HN.out]
          exact behind_at rs k hlt (by rw [hl];exact hb)
        rw [hb] at hcB
        clear hb hbl hl HN
        go_wp2_with (go_at_call 127;refine (hcB _).mono ?_;rintro e w1 ⟨rfl,b1⟩)
        go_ret
        rw [HF.out]
        exact ⟨rfl,hbel.trans (b1.mono hbs)⟩
    · have HF:Hid (behindS rs 0=k):=by
        show _=_
        rw [← HN.out]
        exact behind_end rs k (by omega)
      go_wp2
      go_ret
      rw [HF.out]
      exact ⟨rfl,hbel⟩
theorem own_lit1 (W:World) (t:ByteArray):(W.alloc (.cells #[.string t] 9)).ownsRow W.heap.size 9 1 (.slice (some ⟨W.heap.size,0,none⟩) 1 1) 1 [.string t] :=
  ⟨rfl,Or.inr ⟨W.heap.size,1,#[.string t],rfl,Nat.le_refl _,heap_alloc_new W _,Nat.le_refl _,by decide,rfl,rfl⟩⟩
set_option maxRecDepth 100000 in
set_option maxHeartbeats 1500000 in
theorem ditems_any (g o cap:Nat) (l0:List UInt8) (r0:List (List UInt8)) (W:World) (hS:Strs g o cap (l0 :: r0) W) (hM:tot (l0 :: r0)≤1073741824) (hI:itemL l0=true) :
    Calls Tryz.prog 160 #[.slice (some ⟨g,o,none⟩) (r0.length+1) cap] W fun e w'=>∃ v1,e=.returned v1∧w'.ownsRow W.heap.size 9 1 v1 (itemIn (l0 :: r0) 0).length (strCs (itemIn (l0 :: r0) 0))∧Below W.heap.size W w':=by
  obtain ⟨i0,hi,hz0,hz1,hz2⟩:=info_parts Tryz.infoStr
  obtain ⟨ls,hls⟩:∃ ls,l0 :: r0=ls:=⟨_,rfl⟩
  have hll:=tot_len (l0 :: r0)
  have hlen:ls.length=r0.length+1:=by rw [← hls];simp
  rw [List.length_cons] at hll
  have hlsM:ls.length≤1073741824:=by omega
  have hc0:=hS.cell 0 l0 rfl
  rw [Nat.add_zero] at hc0
  have hglt:=hS.lt
  have hfit:=hS.fits
  rw [List.length_cons] at hfit
  have hmax:=hS.max
  have hsz0:l0.length≤1073741824:=by rw [tot_cons] at hM;omega
  have hb45:beginsS ⟨l0.toArray⟩ ⟨#[45]⟩=true:=by
    have:=item_eq ⟨l0.toArray⟩
    rw [show itemS ⟨l0.toArray⟩=true from hI] at this
    cases h:beginsS ⟨l0.toArray⟩ ⟨#[45]⟩ with
    | true=>rfl
    | false=>rw [h] at this;cases this
  have hcM:=fun W=>dunm_any ⟨l0.toArray⟩ W hb45 (by rw [size_of];omega)
  have hd2:(⟨l0.toArray⟩:ByteArray).data.toList.drop 2=l0.drop 2:=rfl
  rw [hd2] at hcM
  have HJ0:Hid ([l0.drop 2]++(moreAt ls 1).1=itemIn ls 0):=by
    show _=_
    rw [itemIn,← hls]
    rfl
  have HS:Hid (Strs g o cap ls W):=by show Strs _ _ _ _ _;rw [← hls];exact hS
  have HM:Hid (tot ls≤1073741824):=by show _≤_;rw [← hls];exact hM
  rw [hls]
  obtain ⟨it,hit⟩:∃ it,itemIn ls 0=it:=⟨_,rfl⟩
  have hitl:it.length≤ls.length:=by
    rw [← hit]
    have:=(item_small ls 0 (by omega) _ (tot_small (Nat.le_refl (tot ls)))).2
    have h2:=(more_facts ls 1 (by omega)).2.1
    rw [Nat.zero_add] at this
    omega
  rw [hit]
  rw [hit] at HJ0
  rw [← hlen]
  rw [← hlen] at hfit
  have h0:0 < ls.length:=by omega
  clear hS hM hI hb45 hd2 hls hit hlen hll
  generalize l0.drop 2=f0 at hcM HJ0
  have own0:(W.alloc (.cells #[.string ⟨f0.toArray⟩] 9)).ownsRow W.heap.size 9 1 (.slice (some ⟨W.heap.size,0,none⟩) 1 1) [f0].length (strCs [f0]):=own_lit1 W ⟨f0.toArray⟩
  go_enter Tryz.func160,Tryz.ntmps160
  go_wp2_with (go_at_call 183;refine (hcM _).mono ?_;rintro e w' ⟨rfl,hw⟩;rw [hw];clear hw)
  go_loopg [3] ls.length (fun gk v3 wr=>∃ (k:Nat) (xs:List (List UInt8)),1≤k∧ls.length - k≤gk∧k≤ls.length∧wr.ownsRow W.heap.size 9 1 v3 k (strCs xs)∧Below W.heap.size W wr∧Hid (xs.length=k∧xs++(moreAt ls k).1=it))
  case atStart=>exact ⟨1,[f0],Nat.le_refl _,by omega,h0,own0,(Below.refl _ W).alloc (Nat.le_refl _) _,⟨rfl,HJ0.out⟩⟩
  case round =>
    clear own0 HJ0 hcM hc0
    obtain ⟨k,xs,hk1,hgk,hk,hown,hbel,HJ⟩:=hrel
    obtain ⟨gl,cl,rfl⟩:∃ gl cl,u3=.slice (some ⟨gl,0,none⟩) k cl:=by
      rcases Joins.ownsRow_forms hown with ⟨_,h⟩ | h
      · omega
      · exact h
    have hbs:=hbel.size
    have hgwr:g < wr.heap.size:=by omega
    have hNb:Strs g (o+k) (cap - k) (ls.drop k) wr:=(HS.out.below hbel hglt).drop k hk
    have hMd:tot (ls.drop k)≤1073741824:=Nat.le_trans (tot_drop ls k) HM.out
    have hcN:=fun W' (hb:Below wr.heap.size wr W')=>dblanks_any g (o+k) (cap - k) (ls.drop k) W' (hNb.below hb hgwr) hMd
    have hdl:(ls.drop k).length=ls.length - k:=List.length_drop
    have hnl:=nb_le (ls.drop k)
    have hbk:behindS ls k=k+nb (ls.drop k):=nb_behind ls k
    rw [hdl] at hcN hnl
    by_cases hkl:k < ls.length
    · have hck:¬ cap=k:=by omega
      generalize nb (ls.drop k)=n at hcN hnl hbk
      by_cases hn:n < ls.length - k
      · obtain ⟨l,hl⟩:∃ l,ls[k+n]'(by omega)=l:=⟨_,rfl⟩
        have hrn:(ls.drop k)[n]?=some l:=by
          rw [List.getElem?_drop,List.getElem?_eq_getElem (by omega),hl]
        have hcell:=hNb.cell n l hrn
        have hsz:l.length≤1073741824:=Nat.le_trans (tot_mem (by rw [← hl];exact List.getElem_mem _)) HM.out
        have hcI:=fun W=>dind_any ⟨l.toArray⟩ W
        have hne:((n:Int) == ((ls.length - k:Nat):Int))=false:=by rw [beq_eq_false_iff_ne];omega
        cases ht:beginsS ⟨l.toArray⟩ ⟨#[32,32]⟩ with
        | false =>
          have hm:=more_no ls k (k+n) hbk (by omega) (by rw [hl];exact ht)
          have HX:Hid (xs=it∧xs.length=k):=by
            have h1:=HJ.out.2
            rw [hm] at h1
            exact ⟨by simpa using h1,HJ.out.1⟩
          rw [ht] at hcI
          clear ht hm hbk hl hdl hNb hrn
          go_wp2_with (first | (go_at_call 161;refine (hcN _ (Below.refl _ _)).mono ?_;rintro e w1 ⟨rfl,b1⟩;have c1:=(b1.cell (p:=⟨g,o+k+n,none⟩) hgwr).trans hcell) | (go_at_call 184;refine (hcI _).mono ?_;rintro e w' ⟨rfl,hw⟩;rw [hw];clear hw))
          go_ret
          have hB1:Below W.heap.size W w1:=hbel.trans (b1.mono hbs)
          rw [← HX.out.1,HX.out.2]
          exact ⟨_,rfl,own_below hown b1 (Nat.le_refl _),hB1⟩
        | true =>
          have hm:=more_go ls k (k+n) hbk (by omega) (by rw [hl];exact ht)
          have HJ2:Hid ((xs++List.replicate n []++[l.drop 2]).length=k+n+1∧(xs++List.replicate n []++[l.drop 2])++(moreAt ls (k+n+1)).1=it):=by
            have h1:=HJ.out.2
            rw [hm] at h1
            rw [hl,show k+n - k=n by omega] at h1
            exact ⟨by simp [HJ.out.1];omega,by simpa using h1⟩
          have hcU:=fun W=>dunind_any ⟨l.toArray⟩ W ht
          have hd2:(⟨l.toArray⟩:ByteArray).data.toList.drop 2=l.drop 2:=rfl
          rw [hd2] at hcU
          rw [ht] at hcI
          generalize l.drop 2=fl at hcU HJ2
          clear ht hm hbk hl hd2 hdl
          go_wp2_with (first | (go_at_call 161;refine (hcN _ (Below.refl _ _)).mono ?_;rintro e w1 ⟨rfl,b1⟩;have c1:=(b1.cell (p:=⟨g,o+k+n,none⟩) hgwr).trans hcell) | (go_at_call 184;refine (hcI _).mono ?_;rintro e w' ⟨rfl,hw⟩;rw [hw];clear hw))
          have hB1:Below W.heap.size W w1:=hbel.trans (b1.mono hbs)
          have hown1:=own_below hown b1 (Nat.le_refl _)
          have HN:Hid (Strs g (o+k) (cap - k) (ls.drop k) W):=HS.out.drop k hk
          clear hown hNb
          go_loopw [3,31] (fun v i wr2=>∃ j:Nat,j≤n∧i=.int .i64 j∧wr2.ownsRow W.heap.size 9 1 v (k+j) (strCs (xs++List.replicate j []))∧Below W.heap.size W wr2) (fun _ i _=>n - (intOf i).toNat)
          case atStart=>exact ⟨0,Nat.zero_le _,rfl,by simpa using hown1,hB1⟩
          case round =>
            clear hown1 hB1
            obtain ⟨j,hj,rfl,hown,hbel2⟩:=hrel
            have hbs2:=hbel2.size
            by_cases hjn:j < n
            · have HQ:Hid (strCs (xs++List.replicate (j+1) [])=strCs (xs++List.replicate j [])++[.string ⟨#[]⟩]):=by
                show _=_
                rw [List.replicate_succ',← List.append_assoc]
                simp [strCs]
              go_wp2_with (at_builtin;refine wpList_append_own _ rfl _ _ 25 rfl W.heap.size 9 i0 (.string ⟨#[]⟩) 1 16 Tryz.underlying25 hi hz0 hz1 hz2 rfl (by decide) _ _ _ rfl (hown.alloc _) ⟨wr.heap.size,0,none⟩ 1 1 [.string ⟨#[]⟩] rfl rfl (str_cell _ _ rfl) (str_one _) (by unfold maxLen;omega) (by omega) (by simp;omega) ?_;intro v' w2 own2 grow2 _)
              go_roundw
              case rel =>
                refine ⟨j+1,by omega,by go_num,?_,(hbel2.alloc hbs2 _).grown grow2 (by simp;omega) (fun b hb=>(hown.lt b hb).1)⟩
                rw [HQ.out]
                exact own2
              case measure=>simp [intOf];omega
            · have hjn2:j=n:=by omega
              subst hjn2
              have hcell2:=(HN.out.below hbel2 hglt).cell j l hrn
              have HQ:Hid (strCs (xs++List.replicate j []++[fl])=strCs (xs++List.replicate j [])++[.string ⟨fl.toArray⟩]):=by show _=_;simp [strCs]
              go_wp2_with (first | (go_at_call 185;refine (hcU _).mono ?_;rintro e w' ⟨rfl,hw⟩;rw [hw];clear hw) | (at_builtin;refine wpList_append_own _ rfl _ _ 25 rfl W.heap.size 9 i0 (.string ⟨#[]⟩) 1 16 Tryz.underlying25 hi hz0 hz1 hz2 rfl (by decide) _ _ _ rfl (hown.alloc _) ⟨wr.heap.size,0,none⟩ 1 1 [.string ⟨fl.toArray⟩] rfl rfl (str_cell _ _ rfl) (str_one _) (by unfold maxLen;omega) (by omega) (by simp;omega) ?_;intro v' w2 own2 grow2 _))
              have hB2:Below W.heap.size W w2:=(hbel2.alloc hbs2 _).grown grow2 (by simp;omega) (fun b hb=>(hown.lt b hb).1)
              have hown2:w2.ownsRow W.heap.size 9 1 v' (k+j+1) (strCs (xs++List.replicate j []++[fl])):=by
                rw [HQ.out]
                exact own2
              go_roundg (ls.length - (k+j+1))
              case measure=>omega
              case rel=>exact ⟨k+j+1,_,by omega,Nat.le_refl _,by omega,hown2,hB2,HJ2⟩
      · have hne:((n:Int) == ((ls.length - k:Nat):Int))=true:=by rw [beq_iff_eq];omega
        have hm:=more_end ls k (k+n) hbk (by omega)
        have HX:Hid (xs=it∧xs.length=k):=by
          have h1:=HJ.out.2
          rw [hm] at h1
          exact ⟨by simpa using h1,HJ.out.1⟩
        clear hm hbk hdl hNb hnl hn
        go_wp2_with (go_at_call 161;refine (hcN _ (Below.refl _ _)).mono ?_;rintro e w1 ⟨rfl,b1⟩)
        go_ret
        have hB1:Below W.heap.size W w1:=hbel.trans (b1.mono hbs)
        rw [← HX.out.1,HX.out.2]
        exact ⟨_,rfl,own_below hown b1 (Nat.le_refl _),hB1⟩
    · have hk0:ls.length - k=0:=by omega
      have hdn:ls.drop k=[]:=List.drop_eq_nil_iff.2 (by omega)
      have hm:=more_end ls k (k+nb (ls.drop k)) hbk (by omega)
      have HX:Hid (xs=it∧xs.length=k):=by
        have h1:=HJ.out.2
        rw [hm] at h1
        exact ⟨by simpa using h1,HJ.out.1⟩
      have hcZ:=fun W' (hb:Below wr.heap.size wr W')=>dblanks_any g o 0 [] W' (((HS.out.below hbel hglt).below hb hgwr).none o [] rfl) (by simp [tot])
      rw [hdn] at hcN
      rw [hk0] at hcN
      have hn0:nb []=0:=rfl
      rw [hn0] at hcN hcZ
      clear hm hbk hdl hNb hnl hdn hMd
      have hk9:((0:Int) == 0)=true:=rfl
      by_cases hck:cap=k
      · clear hcN
        subst hck
        go_wp2_with (go_at_call 161;refine (hcZ _ (Below.refl _ _)).mono ?_;rintro e w1 ⟨rfl,b1⟩)
        go_ret
        have hB1:Below W.heap.size W w1:=hbel.trans (b1.mono hbs)
        rw [← HX.out.1,HX.out.2]
        exact ⟨_,rfl,own_below hown b1 (Nat.le_refl _),hB1⟩
      · clear hcZ
        go_wp2_with (go_at_call 161;refine (hcN _ (Below.refl _ _)).mono ?_;rintro e w1 ⟨rfl,b1⟩)
        go_ret
        have hB1:Below W.heap.size W w1:=hbel.trans (b1.mono hbs)
        rw [← HX.out.1,HX.out.2]
        exact ⟨_,rfl,own_below hown b1 (Nat.le_refl _),hB1⟩
end Go.Proofs.YtljcljipppjnoaaGreatDoor
namespace Go.Proofs.YtljcljipppjnoaaGreatDoor
open Go.RowKit
theorem behind_shift (ls:List (List UInt8)) (k n:Nat):behindS ls (k+n)=k+behindS (ls.drop k) n:=by
  unfold behindS
  rw [List.drop_drop]
  omega
theorem more_shift (ls:List (List UInt8)) (k n:Nat) (hk:k≤ls.length) (hn:n≤(ls.drop k).length):(moreAt ls (k+n)).1=(moreAt (ls.drop k) n).1∧(moreAt ls (k+n)).2=k+(moreAt (ls.drop k) n).2:=by
  induction hm:(ls.drop k).length - n using Nat.strongRecOn generalizing n with
  | _ m ih =>
    have hl:(ls.drop k).length=ls.length - k:=List.length_drop
    have hb:=behind_shift ls k n
    have hge:=behind_ge (ls.drop k) n
    by_cases h:behindS (ls.drop k) n < (ls.drop k).length
    · have hg:(ls.drop k)[behindS (ls.drop k) n]=ls[k+behindS (ls.drop k) n]'(by omega):=List.getElem_drop
      cases h2:two (ls.drop k)[behindS (ls.drop k) n] with
      | true =>
        obtain ⟨i1,i2⟩:=ih ((ls.drop k).length - (behindS (ls.drop k) n+1)) (by omega) (behindS (ls.drop k) n+1) (by omega) rfl
        rw [more_go (ls.drop k) n _ rfl h h2,more_go ls (k+n) _ hb (by omega) (by rw [← hg];exact h2)]
        rw [← Nat.add_assoc] at i1 i2
        simp only [i1,i2,hg]
        rw [show k+behindS (ls.drop k) n - (k+n)=behindS (ls.drop k) n - n by omega]
        exact ⟨rfl,trivial⟩
      | false =>
        rw [more_no (ls.drop k) n _ rfl h h2,more_no ls (k+n) _ hb (by omega) (by rw [← hg];exact h2)]
        exact ⟨rfl,rfl⟩
    · rw [more_end (ls.drop k) n _ rfl h,more_end ls (k+n) _ hb (by omega)]
      exact ⟨rfl,rfl⟩
theorem item_shift (ls:List (List UInt8)) (k:Nat) (hk:k < ls.length):itemIn (ls.drop k) 0=itemIn ls k∧(ls.drop k).drop (moreAt (ls.drop k) 1).2=ls.drop (moreAt ls (k+1)).2:=by
  obtain ⟨h1,h2⟩:=more_shift ls k 1 (by omega) (by rw [List.length_drop];omega)
  refine ⟨?_,?_⟩
  · rw [itemIn,itemIn,h1,List.getElem?_drop,Nat.add_zero]
  · rw [List.drop_drop,h2]
def St (f:List (List UInt8)→List Ev) (ls:List (List UInt8)) (k:Nat) (done:List Ev):Prop :=
  (∃ hk:k < ls.length,itemL ls[k]=true∧done++(itemsAt f ls k).1=(itemsAt f ls 0).1∧(itemsAt f ls k).2=(itemsAt f ls 0).2)∨(done=(itemsAt f ls 0).1∧k=behindS ls (itemsAt f ls 0).2∧∀ hk:k < ls.length,itemL ls[k]=false)
theorem st_step (f:List (List UInt8)→List Ev) (ls:List (List UInt8)) (k:Nat) (done:List Ev) (hk:k < ls.length) (hi:itemL ls[k]=true) (h:St f ls k done):St f ls (behindS ls (moreAt ls (k+1)).2) (done++itemEv f ls k):=by
  rcases h with ⟨_,_,h1,h2⟩ | ⟨_,_,h3⟩
  · by_cases hb:behindS ls (moreAt ls (k+1)).2 < ls.length
    · cases h4:itemL ls[behindS ls (moreAt ls (k+1)).2] with
      | true =>
        have e:=items_go f ls k _ rfl hb h4
        rw [e] at h1 h2
        exact Or.inl ⟨hb,h4,by rw [List.append_assoc];exact h1,h2⟩
      | false =>
        have e:=items_no f ls k _ rfl hb h4
        rw [e] at h1 h2
        exact Or.inr ⟨h1,by rw [← h2],fun _=>h4⟩
    · have e:=items_end f ls k _ rfl hb
      rw [e] at h1 h2
      exact Or.inr ⟨h1,by rw [← h2],fun hk=>absurd hk hb⟩
  · rw [h3 hk] at hi
    cases hi
theorem st_end (f:List (List UInt8)→List Ev) (ls:List (List UInt8)) (k:Nat) (done:List Ev) (hn:∀ hk:k < ls.length,itemL ls[k]=false) (h:St f ls k done):done=(itemsAt f ls 0).1∧k=behindS ls (itemsAt f ls 0).2:=by
  rcases h with ⟨hk,h1,_⟩ | ⟨h1,h2,_⟩
  · rw [hn hk] at h1
    cases h1
  · exact ⟨h1,h2⟩
theorem items_len (f:List (List UInt8)→List Ev) (hfl:∀ ls,(f ls).length≤12 * ls.length) (ls:List (List UInt8)) (h0:0 < ls.length):(itemsAt f ls 0).1.length≤14 * ls.length∧(itemsAt f ls 0).2≤ls.length:=by
  obtain ⟨a1,a2,a3⟩:=items_facts f 12 hfl ls 0 h0
  refine ⟨Nat.le_trans a3 (Nat.mul_le_mul_left _ (by omega)),a2⟩
theorem blocks_blank (inner:List (List UInt8)→List Ev) (depth:Int) (rs:List (List UInt8)):blocksF inner depth (rs.drop (nb rs))=blocksF inner depth rs:=by
  induction rs with
  | nil=>rfl
  | cons l r ih =>
    cases h:blankL l with
    | true =>
      have:nb (l :: r)=nb r+1:=by unfold nb;rw [List.takeWhile_cons,if_pos h];rfl
      rw [this,List.drop_succ_cons,ih,blocksF,if_pos h]
    | false =>
      have:nb (l :: r)=0:=by unfold nb;rw [List.takeWhile_cons,h];rfl
      rw [this,List.drop_zero]
theorem blocks_behind (inner:List (List UInt8)→List Ev) (depth:Int) (ls:List (List UInt8)) (n:Nat):blocksF inner depth (ls.drop (behindS ls n))=blocksF inner depth (ls.drop n):=by
  rw [nb_behind,← List.drop_drop]
  exact blocks_blank inner depth (ls.drop n)
end Go.Proofs.YtljcljipppjnoaaGreatDoor
namespace Go.Proofs.YtljcljipppjnoaaGreatDoor
open Go.RowKit Go.Shelf
def codeN (r:List (List UInt8)) (k:Nat):Nat:=scan (fun l=>!shuts l) r k
theorem shut_code (l:List UInt8) (r:List (List UInt8)):shutAt (l :: r) 1=1+codeN r 0:=by
  simp [shutAt,codeN,scan]
theorem code_text (l:List UInt8) (r:List (List UInt8)):fencedT (l :: r)=codeOf (r.take (codeN r 0)):=by
  rw [fencedT,shut_code,Nat.add_comm,List.take_succ_cons,List.drop_succ_cons,List.drop_zero]
theorem Tel.Ok.bld {q:Tel} {acc:List Stp} {W w':World} {B bt:Nat} {p:List UInt8} (hq:q.Ok) (hT:q.Told acc W) (hH:HasL B bt p W) (hO:Lib.OthersKept 5 (some bt) W w'):(q.Told acc w'∧∀ b,q.Own w' b→q.Own W b)∧¬ q.Own W bt:=by
  obtain ⟨_,x,v,hbT,_⟩:=hH.at
  have hno:¬ q.Own W bt:=fun ho=>by
    obtain ⟨ob,h1,h2⟩:=hq.typ acc W hT bt ho
    rw [hbT] at h1
    injection h1 with h1
    exact (h2 _ _ _ h1.symm).2 rfl
  refine ⟨hq.keep acc W w' hT fun b ho=>?_,hno⟩
  obtain ⟨ob,h1,h2⟩:=hq.typ acc W hT b ho
  rw [h1]
  exact hO b ob h1 (fun h=>by injection h with h;subst h;exact hno ho) (fun c fz h=>(h2 _ _ _ h).1 rfl)
theorem Tel.Ok.row8 {q:Tel} {acc:List Stp} {W:World} (hq:q.Ok) (hT:q.Told acc W) {b:Nat} (h:Row8 W b):¬ q.Own W b:=fun ho=>by
  obtain ⟨c,fz,h⟩:=h
  obtain ⟨ob,h1,h2⟩:=hq.typ acc W hT b ho
  rw [h] at h1
  injection h1 with h1
  exact (h2 _ _ _ h1.symm).1 rfl
set_option maxRecDepth 100000 in
set_option maxHeartbeats 2000000 in
theorem inCode_any (q:Tel) (hq:q.Ok) (acc:List Stp) (ct:List UInt8) (B bt bf be:Nat) (ce:Array Value) (W:World) (hT:q.Told acc W) (hH:HasL B bt ct W) (hBW:B≤W.heap.size) (hlen:acc.length≤1099511627776)
    (hf:W.heap[bf]?=some (.cells #[.func (.func q.kd) #[] #[.pointer (some ⟨q.bd,0,none⟩)],.func (.func q.kl) #[] #[.pointer (some ⟨q.bl,0,none⟩)]] 159 (0,0))) (he:W.heap[be]?=some (.cells ce 92 (0,0))) (hbe:¬ q.Own W be) (hbf:¬ q.Own W bf) :
    Calls Tryz.prog 153 #[.pointer (some ⟨bt,0,none⟩),.pointer (some ⟨bf,0,none⟩)] W fun e w'=>e=.returned (.tuple #[])∧q.Told (acc++(if ct=[] then [] else [.ev ⟨8,false,0,ct⟩])) w'∧Kt q none B W w'∧w'.heap[be]?=W.heap[be]?:=by
  have c1:=hasL_get B bt ct W.drew hH (show B≤W.heap.size from hBW)
  have HB:Hid (∀ w1,Below B W.drew w1→Lib.OthersKept 5 (some bt) W.drew w1→w1.heap[bf]?=some (.cells #[.func (.func q.kd) #[] #[.pointer (some ⟨q.bd,0,none⟩)],.func (.func q.kl) #[] #[.pointer (some ⟨q.bl,0,none⟩)]] 159 (0,0))∧w1.heap[be]?=W.heap[be]?∧q.Told acc w1∧Kt q none B W w1∧¬ q.Own w1 be∧¬ q.Own w1 bf):=by
    intro w1 b1 o1
    have o2:Lib.OthersKept 5 (some bt) W w1:=(Lib.OthersKept.refl _ _ W).drew.trans o1
    obtain ⟨⟨t1,t2⟩,t3⟩:=hq.bld hT hH o2
    have b2:Below B W w1:=(Below.refl _ W).drew.trans b1
    exact ⟨oth_cell hH o2 hf (by decide) (by decide),(oth_cell hH o2 he (by decide) (by decide)).trans he.symm,t1,⟨b2.os,b2.tape,b2.output,b2.size,fun i hi _ _=>b2.block i hi,fun i _ ho=>t2 i ho⟩,fun h=>hbe (t2 _ h),fun h=>hbf (t2 _ h)⟩
  have HT:Hid (∀ w1,q.Told acc w1→_):=fun w1 h=>ttext_any q hq acc ct w1 h hlen
  have cf:=(cells2 hf).1
  have hlt:=lt_of_block hf
  have hle:=(Array.getElem?_eq_some_iff.1 he).1
  generalize (if ct=[] then [] else [Stp.ev ⟨8,false,0,ct⟩])=R at HT ⊢
  clear hT hH hq hf he
  go_enter Tryz.func153,Tryz.ntmps153
  go_wp2
  go_region_held3 (fun w'=>w'.cell? ⟨bf,0,none⟩=some (.func (.func q.kd) #[] #[.pointer (some ⟨q.bd,0,none⟩)])) (first | exact f2 | exact f1 | exact cf) (first | (go_at_call 106;refine c1.mono ?_;rintro e w1 ⟨rfl,i1,b1,o1⟩;obtain ⟨x1,x2,x3,x4,x5,x6⟩:=HB.out w1 b1 o1;have f1:=(cells2 x1).1) | (go_at_call 62;refine (HT.out w1 x3).mono ?_;rintro e w2 ⟨rfl,T2,K2⟩;have f2:=(cells2 ((K2.block bf (Nat.lt_of_lt_of_le hlt x4.size) (by simp) x6).trans x1)).1))
  go_wp2
  go_end0
  exact ⟨rfl,T2,x4.trans (K2.mono (Nat.le_trans hBW x4.size)),(K2.block be (Nat.lt_of_lt_of_le hle x4.size) (by simp) x5).trans x2⟩
theorem code_map (t:List UInt8):([Stp.ev ⟨5,false,0,[]⟩]++(if t=[] then [] else [Stp.ev ⟨8,false,0,t⟩])++[Stp.ev (evEnd ⟨5,false,0,[]⟩)])=(leafS 5 0 t).map Stp.ev:=by
  unfold leafS evEnd
  split <;> rfl
theorem wCode_any (q:Tel) (hq:q.Ok) (acc:List Stp) (ct:List UInt8) (W wt:World) (v a d:Value) (hT:q.Told acc W) (hlen:acc.length+2≤1099511627776) (hH:HasL (W.heap.size+1+1) (W.heap.size+1+1) ct wt) (hb:Below (W.heap.size+1+1) ((W.alloc (.cells #[.func (.func q.kd) #[] #[.pointer (some ⟨q.bd,0,none⟩)],.func (.func q.kl) #[] #[.pointer (some ⟨q.bl,0,none⟩)]] 159)).alloc (.cells #[v,a,d] 162)) wt) :
    Calls Tryz.prog 152 #[.agg #[.int .i64 5,.bool false,.int .i64 0,.string ⟨#[]⟩],.func (.func q.kd) #[] #[.pointer (some ⟨q.bd,0,none⟩)],.func (.func 153) #[] #[.pointer (some ⟨W.heap.size+1+1,0,none⟩),.pointer (some ⟨W.heap.size,0,none⟩)]] wt fun e w'=>e=.returned (.tuple #[])∧q.Told (acc++(leafS 5 0 ct).map Stp.ev) w'∧Kt q none (W.heap.size+1+1) wt w':=by
  obtain ⟨x1,x2,x3⟩:=Obj.fi q v a d W wt hb
  have hTt:=hq.below hT x3
  have l1:=lt_of_block x1
  have l2:=hH.lt
  have hml:∀ mid:List Stp,mid=(if ct=[] then [] else [.ev ⟨8,false,0,ct⟩])→mid.length≤1:=by
    intro mid hmid
    rw [hmid]
    split <;> simp
  refine (twithin_gen q hq none acc (fun mid=>mid=(if ct=[] then [] else [.ev ⟨8,false,0,ct⟩])) 1 hml ⟨5,false,0,[]⟩ 153 #[.pointer (some ⟨W.heap.size+1+1,0,none⟩),.pointer (some ⟨W.heap.size,0,none⟩)] wt (fun _=>True) (enters_of Tryz.func153 (by kernel_rfl) rfl) hTt (by omega) (W.heap.size+1+1) (by omega) ?_ (fun _ _ _ _=>trivial)).mono ?_
  · intro W' hT' hK' he ho
    have hnb:¬ q.Own wt (W.heap.size+1+1):=hq.new hT x3 (by omega)
    have hH':HasL (W.heap.size+1+1) (W.heap.size+1+1) ct W':=hH.keep (hK'.block _ l2 (by simp) hnb) (fun g hg=>hK'.block g (by obtain ⟨c,fz,h⟩:=hg;exact (Array.getElem?_eq_some_iff.1 h).1) (by simp) (hq.row8 hTt hg))
    have hnf:¬ q.Own wt W.heap.size:=hq.new hT x3 (Nat.le_refl _)
    refine (inCode_any q hq (acc++[.ev ⟨5,false,0,[]⟩]) ct (W.heap.size+1+1) (W.heap.size+1+1) W.heap.size wt.heap.size _ W' hT' hH' (by have:=hK'.size;omega) (by rw [List.length_append,List.length_singleton];omega) ((hK'.block _ l1 (by simp) hnf).trans x1) he ho (hK'.off l1 hnf)).mono ?_
    rintro e w' ⟨rfl,h1,h2,h3⟩
    exact ⟨rfl,_,rfl,h1,h2,h3,trivial⟩
  · rintro e w' ⟨rfl,mid,rfl,T,K,_⟩
    rw [code_map] at T
    exact ⟨rfl,T,K⟩
theorem fenced_min (l:List UInt8) (r:List (List UInt8)) (hn:codeN r 0≤r.length):fencedN (l :: r)=min (codeN r 0+1+1) (r.length+1):=by
  rw [fencedN,shut_code,List.length_cons]
  split <;> omega
set_option maxRecDepth 100000 in
set_option maxHeartbeats 4000000 in
theorem dcode_any (q:Tel) (hq:q.Ok) (acc0:List Stp) (g o cap a:Nat) (d:Int) (l0:List UInt8) (r:List (List UInt8)) (W:World) (hT:q.Told acc0 W) (hlen:acc0.length+2≤1099511627776) (hS:Strs g o cap (l0 :: r) W) (hM:tot (l0 :: r)≤1073741824) :
    Calls Tryz.prog 129 #[.agg #[.func (.func q.kd) #[] #[.pointer (some ⟨q.bd,0,none⟩)],.func (.func q.kl) #[] #[.pointer (some ⟨q.bl,0,none⟩)]],.agg #[.slice (some ⟨g,o,none⟩) (r.length+1) cap,.int .i64 a,.int .i64 d]] W fun e w' =>
      e=.returned (.int .i64 ((fencedN (l0 :: r):Nat):Int))∧(∃ S,SpOk a (a+fencedN (l0 :: r)) S (leafS 5 0 (fencedT (l0 :: r)))∧q.Told (acc0++S) w')∧Kt q none W.heap.size W w':=by
  have hmf:∀ (fn:Fn) (first cap:Array Value) (w:World),(Instr.makeFunc fn first cap).run Tryz.prog w=.ok (.func fn first cap) w:=fun _ _ _ _=>rfl
  have hglt:=hS.lt
  have hfit:=hS.fits
  rw [List.length_cons] at hfit
  have hmax:=hS.max
  have hn0:codeN r 0≤r.length:=(scan_le _ r 0 (Nat.zero_le _)).1
  rw [tot_cons] at hM
  have hll:=tot_len r
  have HM:Hid (tot r≤1073741824):=by show _≤_;omega
  rw [code_text]
  obtain ⟨ct,hct⟩:∃ ct,codeOf (r.take (codeN r 0))=ct:=⟨_,rfl⟩
  obtain ⟨fn,hfn⟩:∃ fn,fencedN (l0 :: r)=fn:=⟨_,rfl⟩
  have hfm:=fenced_min l0 r hn0
  rw [hfn] at hfm
  rw [hct,hfn]
  have HC:Hid (codeOf (r.take (codeN r 0))=ct∧fn=min (codeN r 0+1+1) (r.length+1)):=⟨hct,hfm⟩
  have HSp:Hid (SpOk a (a+fn) ((leafS 5 0 ct).map Stp.ev) (leafS 5 0 ct)):=SpOk.code a (a+fn) (by omega) ct
  obtain ⟨W2,hW2,z2,hK,hK3⟩:=fp_frame q hq acc0 W hT (.slice (some ⟨g,o,none⟩) (r.length+1) cap) (.int .i64 a) (.int .i64 d)
  obtain ⟨⟨⟨k1,k2⟩,⟨k3,k4,k5⟩⟩,hb02,_⟩:=hK W2 (Below.refl _ W2)
  have HK:Hid _:=hK
  have HK3:Hid _:=hK3
  have hwc:=fun wt ct hH hb=>wCode_any q hq acc0 ct W wt (.slice (some ⟨g,o,none⟩) (r.length+1) cap) (.int .i64 a) (.int .i64 d) hT hlen hH hb
  rw [hW2,← z2] at hwc
  have HW:Hid _:=hwc
  have HS0:Hid (Strs g o cap (l0 :: r) W2):=hS.below hb02 hglt
  have hg2:g < W2.heap.size:=by omega
  have z3:W2.heap.size≤W.heap.size+2∧W.heap.size+2≤W2.heap.size:=by omega
  clear hT hS hq hK hK3 hct hfn hfm hwc hn0 z2
  go_enter Tryz.func129,Tryz.ntmps129
  go_wp2
  go_loopw [5] (fun i wr=>∃ (j:Nat) (acc:List UInt8),1≤j∧j≤r.length+1∧i=.int .i64 j∧HasL W2.heap.size W2.heap.size acc wr∧Below W2.heap.size W2 wr∧Hid (acc=codeOf (r.take (j - 1)))∧Hid (codeN r (j - 1)=codeN r 0)) (fun i _=>r.length+1 - (intOf i).toNat)
  case atStart=>exact ⟨1,[],Nat.le_refl _,by omega,rfl,Lib.IsBuilderF.of (Lib.fresh_isBuilder 191 5 W2),(Below.refl _ W2).alloc (Nat.le_refl _) _,(by show _=_;rfl),(by show _=_;rfl)⟩
  case round =>
    obtain ⟨j,acc,hj1,hj,rfl,hI,hbel,HAc,HN⟩:=hrel
    have hbs:=hbel.size
    have hgwr:g < wr.heap.size:=by omega
    have hacc:acc.length≤1073741824:=by
      rw [HAc.out,codeOf_len]
      exact Nat.le_trans (tot_take r (j - 1)) HM.out
    have hfin:codeN r 0=j - 1→acc=ct:=fun h=>by rw [← HC.out.1,h];exact HAc.out
    have hbw:∀ w1 w2,Below wr.heap.size wr w1→Below W2.heap.size w1 w2→Below W2.heap.size W2 w2:=fun w1 w2 a b=>(hbel.trans (a.mono hbs)).trans b
    obtain ⟨⟨⟨r1,r2⟩,⟨r3,r4,r5⟩⟩,_⟩:=HK.out wr hbel
    by_cases hlt:j < r.length+1
    · have hlt':j - 1 < r.length:=by omega
      obtain ⟨l,hl⟩:∃ l,r[j - 1]=l:=⟨_,rfl⟩
      have hcell:=(HS0.out.below hbel hg2).cell j l (by
        obtain ⟨k,rfl⟩:∃ k,j=k+1:=⟨j - 1,by omega⟩
        rw [List.getElem?_cons_succ,← hl]
        exact List.getElem?_eq_getElem hlt')
      have hsz:l.length≤1073741824:=Nat.le_trans (tot_mem (by rw [← hl];exact List.getElem_mem hlt')) HM.out
      have hcE:=fun W=>dfenceEnd_any ⟨l.toArray⟩ W (by rw [size_of];omega)
      have hsh:shuts (⟨l.toArray⟩:ByteArray).data.toList=shuts l:=rfl
      rw [hsh] at hcE
      cases hb:shuts l with
      | true =>
        have hkk:codeN r 0=j - 1:=by
          rw [← HN.out]
          exact scan_at _ r (j - 1) hlt' (by rw [hl,hb];rfl)
        have hac:=hfin hkk
        subst hac
        have hfv:fn=j+1:=by rw [HC.out.2,hkk];omega
        have hm:min ((j:Int)+1) ((r.length:Int)+1)=(j:Int)+1:=by omega
        have hrv:((fn:Nat):Int)=(j:Int)+1:=by omega
        rw [hb] at hcE
        have HRV:Hid (((fn:Nat):Int)=(j:Int)+1):=hrv
        have HSp2:Hid (SpOk a (a+fn) ((leafS 5 0 acc).map Stp.ev) (leafS 5 0 acc)):=HSp
        clear hb hsh hl hfin HN hfv hkk hrv
        go_wp2_with (first | (go_at_call 151;refine (hcE _).mono ?_;rintro e w1 ⟨rfl,b1⟩;have B1:Below W2.heap.size W2 w1:=hbel.trans (b1.mono hbs);obtain ⟨⟨⟨t1,t2⟩,⟨t3,t4,t5⟩⟩,_⟩:=HK.out w1 B1) | (go_at_call 152;refine (HW.out w1 _ (hI.below b1) B1).mono ?_;rintro e w5 ⟨rfl,T5,K5⟩;obtain ⟨⟨⟨y1,y2⟩,⟨y3,y4,y5⟩⟩,hKK⟩:=HK3.out w1 w5 B1 K5))
        go_ret
        exact ⟨by rw [HRV.out];rfl,⟨_,HSp2.out,T5⟩,hKK⟩
      | false =>
        have HN2:Hid (codeN r (j+1 - 1)=codeN r 0):=by
          show _=_
          rw [← HN.out,show j+1 - 1=j - 1+1 by omega]
          exact (scan_lt _ r (j - 1) hlt' (by rw [hl,hb];rfl)).symm
        have HA2:Hid (acc++l++[10]=codeOf (r.take (j+1 - 1))):=by
          show _=_
          rw [show j+1 - 1=j - 1+1 by omega,snoc_take r (j - 1) hlt',codeOf_snoc,hl,← HAc.out,List.append_assoc]
        rw [hb] at hcE
        clear hb hsh hl hfin HN
        go_wp2_with (first | (go_at_call 151;refine (hcE _).mono ?_;rintro e w1 ⟨rfl,b1⟩;have B1:Below W2.heap.size W2 w1:=hbel.trans (b1.mono hbs);obtain ⟨⟨⟨t1,t2⟩,⟨t3,t4,t5⟩⟩,_⟩:=HK.out w1 B1;have c1:=(b1.cell (p:=⟨g,_,none⟩) hgwr).trans hcell;have s1:=b1.size) | (go_at_call 121;refine (hasL_string _ _ acc l w1 (hI.below b1) (by omega) (by omega)).mono ?_;rintro e w2 ⟨rfl,i2,b2⟩;have s2:=b2.size) | (go_at_call 104;refine (hasL_byte _ _ (acc++l) w2 i2 (by rw [List.length_append];omega) (by omega)).mono ?_;rintro e w3 ⟨rfl,i3,b3⟩))
        go_roundw
        case rel=>exact ⟨j+1,_,by omega,by omega,by go_num,i3,(hbw _ _ b1 b2).trans b3,HA2,HN2⟩
        case measure=>simp [intOf];omega
    · have hje:j - 1=r.length:=by omega
      have hkk:codeN r 0=j - 1:=by
        rw [← HN.out]
        exact scan_end _ r (j - 1) (by omega)
      have hac:=hfin hkk
      subst hac
      have hfv:fn=j:=by rw [HC.out.2,hkk];omega
      have hj2:j=r.length+1:=by omega
      have hm:min ((j:Int)+1) ((r.length:Int)+1)=(j:Int):=by omega
      have hrv:((fn:Nat):Int)=(j:Int):=by omega
      have hnl:decide ((j:Int) < (r.length:Int)+1)=false:=by simp;omega
      have HRV:Hid (((fn:Nat):Int)=(j:Int)):=hrv
      have HSp2:Hid (SpOk a (a+fn) ((leafS 5 0 acc).map Stp.ev) (leafS 5 0 acc)):=HSp
      clear hfin HN hfv hkk hrv hj2 hje hlt
      go_wp2_with (go_at_call 152;refine (HW.out wr _ hI hbel).mono ?_;rintro e w5 ⟨rfl,T5,K5⟩;obtain ⟨⟨⟨y1,y2⟩,⟨y3,y4,y5⟩⟩,hKK⟩:=HK3.out wr w5 hbel K5)
      go_ret
      exact ⟨by rw [HRV.out];rfl,⟨_,HSp2.out,T5⟩,hKK⟩
end Go.Proofs.YtljcljipppjnoaaGreatDoor
