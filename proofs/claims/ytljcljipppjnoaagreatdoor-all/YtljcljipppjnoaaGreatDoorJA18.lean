import Derived.Test.YtljcljipppjnoaaGreatDoorJA02
import Derived.Shelf.Abstract
import Derived.RangeFuncRecord
import Derived.RangeFuncBound
namespace Go.Proofs.YtljcljipppjnoaaGreatDoor
open Go.RowKit
theorem run_append_at {P:Program} (w:World) (base:Nat) (t ty e:TypeId) (i:TypeInfo) (z:Value) (size bytes:Nat) (ht:P.underlying t=some (.slice e)) (hi:P.info? e=some i) (hz:i.zero=some z)
    (hsize:i.size=size) (hby:i.bytes=bytes) (hzs:z.cells.size=size) (hsz:0 < size)
    (v:Value) (n:Nat) (xs:List Value) (hown:w.ownsRow base e size v n xs)
    (a:Addr) (m c:Nat) (hm:0 < m) (news:List Value) (hl:news.length=m * size) (hnews:∀ j u,news[j]?=some u→w.cell? (a.add j)=some u) (h1:∀ u ∈ news,u.oneCell'=true)
    (h63:n+m≤maxLen) (hbytes:(n+m) * bytes≤140737488355328) (hbase:base≤w.heap.size) :
    ∃ v' w',(Builtin.append_ #[t,t] ty #[v,.slice (some a) m c]).run P w=.ok v' w'∧w'.ownsRow base e size v' (n+m) (xs++news)∧w.grownBy w' v.ownBlock∧(v'.ownBlock=v.ownBlock∨v'.ownBlock=some w.heap.size):=by
  obtain ⟨v',w',hr,h2,h3,_⟩:=run_append_own (P:=P) w base t ty e i z size bytes ht hi hz hsize hby hzs hsz v n xs hown a m c news hl hnews h1 h63 hbytes hbase
  refine ⟨v',w',hr,h2,h3,?_⟩
  subst hsize
  subst hby
  have hsmall:n+m≤9223372036854775807:=by simp only [maxLen] at h63;omega
  rcases hown.2 with ⟨rfl,rfl⟩ | ⟨g,cap,cur,rfl,hbg,hg,hnc,hcm,hcs,htake⟩
  · have hr2:=run_append_nil (P:=P) w t ty e i z ht hi hz a m c news hl hnews (by omega) (by omega) (by have hb:=hbytes;simp only [Nat.zero_add] at hb;omega)
    rw [hr2] at hr
    injection hr with h _
    right
    rw [← h]
    rfl
  · by_cases hroom:n+m≤cap
    · have hfit:n * i.size+news.length≤cur.size:=by rw [hl,hcs,← Nat.add_mul];exact Nat.mul_le_mul_right _ hroom
      have hr2:=run_append_room (P:=P) w t ty e i ht hi g n cap cur hg a m c news hl hnews h1 hroom hfit
      rw [hr2] at hr
      injection hr with h _
      left
      rw [← h]
      rfl
    · have holds:∀ j u,xs[j]?=some u→w.cell? ((⟨g,0,none⟩:Addr).add j)=some u:=hown.cells (g:=g) rfl
      have hr2:=run_append_grow (P:=P) w t ty e i z ht hi hz ⟨g,0,none⟩ n cap xs hown.1 holds a m c news hl hnews (by omega) (by omega) (growslice_fits (by omega) hbytes)
      rw [hr2] at hr
      injection hr with h _
      right
      rw [← h]
      rfl
theorem wpList_append_at {P:Program} (w:World) {ops:Array Oper} {rest:List Oper} {o:Oper} {a:Act} {Q:Exit→Act→World→Prop} (hgd:o.guard=none) (s x:Operand) (t:TypeId)
    (ho:o.op=.call { callee:=.builtin .append,args:=#[s,x],argTypes:=#[t,t] })
    (base:Nat) (e:TypeId) (i:TypeInfo) (z:Value) (size bytes:Nat) (ht:P.underlying t=some (.slice e)) (hi:P.info? e=some i) (hz:i.zero=some z)
    (hsize:i.size=size) (hby:i.bytes=bytes) (hzs:z.cells.size=size) (hsz:0 < size)
    (v:Value) (n:Nat) (xs:List Value) (hs:a.eval s=v) (hown:w.ownsRow base e size v n xs)
    (ad:Addr) (m c:Nat) (hm:0 < m) (news:List Value) (hx:a.eval x=.slice (some ad) m c) (hl:news.length=m * size) (hnews:∀ j u,news[j]?=some u→w.cell? (ad.add j)=some u) (h1:∀ u ∈ news,u.oneCell'=true)
    (h63:n+m≤maxLen) (hbytes:(n+m) * bytes≤140737488355328) (hbase:base≤w.heap.size)
    (h:∀ v' w',w'.ownsRow base e size v' (n+m) (xs++news)→w.grownBy w' v.ownBlock→(v'.ownBlock=v.ownBlock∨v'.ownBlock=some w.heap.size)→wpList P ops Q rest (a.put o.dst v') w'):wpList P ops Q (o :: rest) a w:=by
  refine wpList_plain hgd fun _ hK=>?_
  obtain ⟨v',w',hr,h2,h3,h4⟩:=run_append_at (P:=P) w base t o.type e i z size bytes ht hi hz hsize hby hzs hsz v n xs hown ad m c hm news hl hnews h1 h63 hbytes hbase
  unfold Oper.wp execOp
  simp only [ho,resolve,invoke,builtin,Sem.run_bind,Sem.run_pure,Result.andThen_ok,List.map_toArray,List.map_cons,List.map_nil,hs,hx,hr]
  exact hK _ _ (h v' w' h2 h3 h4)
theorem one_inj {v u:Value} {t:TypeId} (h:some (Obj.cells #[v] t (0,0))=some (Obj.cells #[u] t (0,0))):v=u:=by
  injection h with h
  injection h with h _
  simpa using h
def Own (b0:Nat) (W:World) (b:Nat):Prop:=b=b0∨∃ v,W.heap[b0]?=some (.cells #[v] 75 (0,0))∧v.ownBlock=some b
structure Kp (b0:Nat) (x:Option Nat) (B:Nat) (W w':World):Prop where
  os:w'.os=W.os
  tape:w'.tape=W.tape
  output:w'.output=W.output
  size:W.heap.size≤w'.heap.size
  block:∀ b,b < B→some b ≠ x→¬ Own b0 W b→w'.heap[b]?=W.heap[b]?
  own:∀ b,b < B→Own b0 w' b→Own b0 W b
def Told (b0:Nat) (acc:List Ev) (W:World):Prop:=∃ v,W.heap[b0]?=some (.cells #[v] 75 (0,0))∧W.ownsRow (b0+1) 92 4 v acc.length (evCs acc)
theorem Kp.refl (b0:Nat) (x:Option Nat) (B:Nat) (W:World):Kp b0 x B W W:=⟨rfl,rfl,rfl,Nat.le_refl _,fun _ _ _ _=>rfl,fun _ _ h=>h⟩
theorem Kp.trans {b0 B:Nat} {x:Option Nat} {a b c:World} (h:Kp b0 x B a b) (k:Kp b0 x B b c):Kp b0 x B a c :=
  ⟨k.os.trans h.os,k.tape.trans h.tape,k.output.trans h.output,Nat.le_trans h.size k.size,fun i hi hx ho=>(k.block i hi hx fun ho'=>ho (h.own i hi ho')).trans (h.block i hi hx ho),fun i hi ho=>h.own i hi (k.own i hi ho)⟩
theorem Kp.mono {b0 B B':Nat} {x:Option Nat} {a b:World} (h:Kp b0 x B a b) (hB:B'≤B):Kp b0 x B' a b :=
  ⟨h.os,h.tape,h.output,h.size,fun i hi=>h.block i (by omega),fun i hi=>h.own i (by omega)⟩
theorem Kp.weak {b0 B:Nat} {x:Option Nat} {a b:World} (h:Kp b0 none B a b):Kp b0 x B a b :=
  ⟨h.os,h.tape,h.output,h.size,fun i hi _=>h.block i hi (by simp),h.own⟩
theorem Kp.past {b0 B g:Nat} {a b:World} (h:Kp b0 (some g) B a b) (hg:B≤g):Kp b0 none B a b :=
  ⟨h.os,h.tape,h.output,h.size,fun i hi _=>h.block i hi (by intro he;injection he with he;omega),h.own⟩
theorem Own.same {b0:Nat} {W w':World} (h:w'.heap[b0]?=W.heap[b0]?) (b:Nat):Own b0 w' b ↔ Own b0 W b:=by
  unfold Own
  rw [h]
theorem Kp.below {b0 B:Nat} {x:Option Nat} {a b:World} (h:Below B a b) (h0:b0 < B):Kp b0 x B a b :=
  ⟨h.os,h.tape,h.output,h.size,fun i hi _ _=>h.block i hi,fun i _ ho=>(Own.same (h.block b0 h0) i).1 ho⟩
theorem Told.lt {b0:Nat} {acc:List Ev} {W:World} (h:Told b0 acc W):b0 < W.heap.size:=by
  obtain ⟨v,hv,_⟩:=h
  exact lt_of_block hv
theorem Told.own_lt {b0:Nat} {acc:List Ev} {W:World} (h:Told b0 acc W) {b:Nat} (hb:Own b0 W b):b < W.heap.size:=by
  obtain ⟨v,hv,ho⟩:=h
  rcases hb with rfl | ⟨v',hv',hb⟩
  · exact lt_of_block hv
  · rw [hv] at hv'
    have:=one_inj hv'
    subst this
    exact (ho.lt b hb).2
theorem Told.keep {b0:Nat} {acc:List Ev} {W w':World} (h:Told b0 acc W) (hk:∀ b,Own b0 W b→w'.heap[b]?=W.heap[b]?):Told b0 acc w':=by
  obtain ⟨v,hv,ho⟩:=h
  refine ⟨v,(hk b0 (Or.inl rfl)).trans hv,ho.1,?_⟩
  rcases ho.2 with h0 | ⟨g,cap,cur,hvv,hg,hh,r⟩
  · exact Or.inl h0
  · exact Or.inr ⟨g,cap,cur,hvv,hg,(hk g (Or.inr ⟨v,hv,by rw [hvv];rfl⟩)).trans hh,r⟩
theorem Told.below {b0:Nat} {acc:List Ev} {W w':World} (h:Told b0 acc W) (hb:Below W.heap.size W w'):Told b0 acc w' :=
  h.keep fun b ho=>hb.block b (h.own_lt ho)
theorem Told.alloc {b0:Nat} {acc:List Ev} {W:World} (h:Told b0 acc W) (o:Obj):Told b0 acc (W.alloc o) :=
  h.keep fun b ho=>Below.heap_alloc W o b (h.own_lt ho)
theorem Told.drew {b0:Nat} {acc:List Ev} {W:World} (h:Told b0 acc W):Told b0 acc W.drew:=h
theorem Told.set {b0:Nat} {acc:List Ev} {W:World} (h:Told b0 acc W) {a:Addr} (ha:¬ Own b0 W a.block) (u:Value):Told b0 acc (W.setCell a u) :=
  h.keep fun b ho=>Below.heap_setCell W a u b fun he=>ha (he ▸ ho)
theorem Told.grown {b0:Nat} {acc:List Ev} {W w':World} (h:Told b0 acc W) {row:Option Nat} (hg:W.grownBy w' row) (hr:∀ g,row=some g→¬ Own b0 W g):Told b0 acc w' :=
  h.keep fun b ho=>hg.block b (h.own_lt ho) fun he=>hr b he.symm ho
theorem Kp.off {b0 B g:Nat} {x:Option Nat} {a b:World} (h:Kp b0 x B a b) (hg:g < B) (ho:¬ Own b0 a g):¬ Own b0 b g:=fun h'=>ho (h.own g hg h')
theorem Told.own_type {b0:Nat} {acc:List Ev} {W:World} (h:Told b0 acc W) {b:Nat} (hb:Own b0 W b):∃ c T fz,W.heap[b]?=some (.cells c T fz)∧(T=75∨T=92):=by
  obtain ⟨v,hv,ho⟩:=h
  rcases hb with rfl | ⟨v',hv',hb⟩
  · exact ⟨_,_,_,hv,Or.inl rfl⟩
  · rw [hv] at hv'
    have:=one_inj hv'
    subst this
    rcases ho.2 with ⟨h0,_⟩ | ⟨g,cap,cur,hvv,_,hh,_⟩
    · rw [h0] at hb;cases hb
    · rw [hvv] at hb
      cases hb
      exact ⟨_,_,_,hh,Or.inr rfl⟩
theorem Told.off {b0:Nat} {acc:List Ev} {W:World} (h:Told b0 acc W) {b:Nat} {c:Array Value} {T:TypeId} {fz:Nat × Nat} (hb:W.heap[b]?=some (.cells c T fz)) (h1:T ≠ 75) (h2:T ≠ 92):¬ Own b0 W b:=fun ho=>by
  obtain ⟨c',T',fz',hh,hT⟩:=h.own_type ho
  rw [hb] at hh
  injection hh with hh
  injection hh with _ hh _
  subst hh
  exact hT.elim h1 h2
def evV (e:Ev):Value:=.agg #[.int .i64 e.kind,.bool e.fin,.int .i64 e.level,.string ⟨e.text.toArray⟩]
theorem Tryz.infoApi:(Tryz.prog.info? 92).map (fun i=>(i.zero,i.size,i.bytes))=some (some (.agg #[.int .i64 0,.bool false,.int .i64 0,.string ⟨#[]⟩]),4,40):=by kernel_rfl
def DoC (kd:Nat):Prop:=(∀ args w,(callFunc kd args).run Tryz.prog w=.ok (.enter kd args) w)∧∀ (b0:Nat) (acc:List Ev) (ev:Ev) (W:World),Told b0 acc W→acc.length≤1099511627776 →
    Calls Tryz.prog kd #[evV ev,.pointer (some ⟨b0,0,none⟩)] W fun e w'=>e=.returned (.tuple #[])∧Told b0 (acc++[ev]) w'∧Kp b0 none W.heap.size W w'
set_option maxRecDepth 100000 in
set_option maxHeartbeats 1000000 in
theorem do_any (b0:Nat) (acc:List Ev) (ev:Ev) (W:World) (hT:Told b0 acc W) (hlen:acc.length≤1099511627776) :
    Calls Tryz.prog 82 #[evV ev,.pointer (some ⟨b0,0,none⟩)] W fun e w'=>e=.returned (.tuple #[])∧Told b0 (acc++[ev]) w'∧Kp b0 none W.heap.size W w':=by
  obtain ⟨j0,hj,hy0,hy1,hy2⟩:=info_parts Tryz.infoApi
  obtain ⟨v,hv,hown⟩:=hT
  have hlt:=lt_of_block hv
  have hcell:=cell_of_one hv
  have hfree:=free_of_one hv
  unfold evV
  go_enter Tryz.func82,Tryz.ntmps82
  go_wp2_with (at_builtin;refine wpList_append_at _ rfl _ _ 75 rfl (b0+1) 92 j0 (.agg #[.int .i64 0,.bool false,.int .i64 0,.string ⟨#[]⟩]) 4 40 Tryz.underlying75 hj hy0 hy1 hy2 rfl (by decide) _ _ _ rfl ((hown.alloc _).alloc _) ⟨W.heap.size+1,0,none⟩ 1 1 (by decide) (evCells ev) rfl rfl ?c1 (ev_one _) ?c3 ?c4 ?c5 ?_)
  case c1=>exact ev_cell _ _ _ (by simp)
  case c3=>unfold maxLen;omega
  case c4=>omega
  case c5=>simp;omega
  intro v' w1 own' grow' at'
  rcases Joins.ownsRow_forms own' with ⟨rfl,h0⟩ | ⟨g',cap',rfl⟩
  · omega
  have hne:some b0 ≠ v.ownBlock:=by
    intro h
    have:=(hown.lt b0 h.symm).1
    omega
  have hv1:w1.heap[b0]?=some (.cells #[v] 75 (0,0)):=by
    rw [grow'.block b0 (by simp;omega) hne,Below.heap_alloc _ _ _ (by simp;omega),Below.heap_alloc _ _ _ hlt]
    exact hv
  have hc1:=cell_of_one hv1
  have hf1:=free_of_one hv1
  go_wp2
  go_end0
  refine ⟨rfl,⟨_,one_setCell hv1,?_⟩,?_⟩
  · rw [List.length_append,evCs_append,evCs_one]
    exact ownsRow_setCell_below own' (Nat.lt_succ_self _) _
  · have g0:=grow'.size
    simp at g0
    refine ⟨grow'.os,grow'.tape,grow'.output,by simp;omega,?_,?_⟩
    · intro b hb _ ho
      have h0:b ≠ b0:=fun h=>ho (Or.inl h)
      rw [Below.heap_setCell _ _ _ _ h0,grow'.block b (by simp;omega) (fun h=>ho (Or.inr ⟨v,hv,h.symm⟩)),Below.heap_alloc _ _ _ (by simp;omega),Below.heap_alloc _ _ _ hb]
    · intro b hb ho
      rcases ho with h | ⟨u,hu,hub⟩
      · exact Or.inl h
      · rw [one_setCell hv1] at hu
        rw [← one_inj hu] at hub
        rcases at' with h | h
        · exact Or.inr ⟨v,hv,by rw [← h];exact hub⟩
        · rw [h] at hub
          injection hub with hub
          omega
theorem do_listed:DoC 82:=⟨enters_of Tryz.func82 (by kernel_rfl) rfl,do_any⟩
set_option maxRecDepth 100000 in
set_option maxHeartbeats 1000000 in
theorem do_any2 (b0:Nat) (acc:List Ev) (ev:Ev) (W:World) (hT:Told b0 acc W) (hlen:acc.length≤1099511627776) :
    Calls Tryz.prog 112 #[evV ev,.pointer (some ⟨b0,0,none⟩)] W fun e w'=>e=.returned (.tuple #[])∧Told b0 (acc++[ev]) w'∧Kp b0 none W.heap.size W w':=by
  obtain ⟨j0,hj,hy0,hy1,hy2⟩:=info_parts Tryz.infoApi
  obtain ⟨v,hv,hown⟩:=hT
  have hlt:=lt_of_block hv
  have hcell:=cell_of_one hv
  have hfree:=free_of_one hv
  unfold evV
  go_enter Tryz.func112,Tryz.ntmps112
  go_wp2_with (at_builtin;refine wpList_append_at _ rfl _ _ 75 rfl (b0+1) 92 j0 (.agg #[.int .i64 0,.bool false,.int .i64 0,.string ⟨#[]⟩]) 4 40 Tryz.underlying75 hj hy0 hy1 hy2 rfl (by decide) _ _ _ rfl ((hown.alloc _).alloc _) ⟨W.heap.size+1,0,none⟩ 1 1 (by decide) (evCells ev) rfl rfl ?c1 (ev_one _) ?c3 ?c4 ?c5 ?_)
  case c1=>exact ev_cell _ _ _ (by simp)
  case c3=>unfold maxLen;omega
  case c4=>omega
  case c5=>simp;omega
  intro v' w1 own' grow' at'
  rcases Joins.ownsRow_forms own' with ⟨rfl,h0⟩ | ⟨g',cap',rfl⟩
  · omega
  have hne:some b0 ≠ v.ownBlock:=by
    intro h
    have:=(hown.lt b0 h.symm).1
    omega
  have hv1:w1.heap[b0]?=some (.cells #[v] 75 (0,0)):=by
    rw [grow'.block b0 (by simp;omega) hne,Below.heap_alloc _ _ _ (by simp;omega),Below.heap_alloc _ _ _ hlt]
    exact hv
  have hc1:=cell_of_one hv1
  have hf1:=free_of_one hv1
  go_wp2
  go_end0
  refine ⟨rfl,⟨_,one_setCell hv1,?_⟩,?_⟩
  · rw [List.length_append,evCs_append,evCs_one]
    exact ownsRow_setCell_below own' (Nat.lt_succ_self _) _
  · have g0:=grow'.size
    simp at g0
    refine ⟨grow'.os,grow'.tape,grow'.output,by simp;omega,?_,?_⟩
    · intro b hb _ ho
      have h0:b ≠ b0:=fun h=>ho (Or.inl h)
      rw [Below.heap_setCell _ _ _ _ h0,grow'.block b (by simp;omega) (fun h=>ho (Or.inr ⟨v,hv,h.symm⟩)),Below.heap_alloc _ _ _ (by simp;omega),Below.heap_alloc _ _ _ hb]
    · intro b hb ho
      rcases ho with h | ⟨u,hu,hub⟩
      · exact Or.inl h
      · rw [one_setCell hv1] at hu
        rw [← one_inj hu] at hub
        rcases at' with h | h
        · exact Or.inr ⟨v,hv,by rw [← h];exact hub⟩
        · rw [h] at hub
          injection hub with hub
          omega
theorem do_stands:DoC 112:=⟨enters_of Tryz.func112 (by kernel_rfl) rfl,do_any2⟩
end Go.Proofs.YtljcljipppjnoaaGreatDoor
namespace Go.Proofs.YtljcljipppjnoaaGreatDoor
open Go.RowKit
inductive Stp where
  | ev (e:Ev)
  | leaf (t:List UInt8) (x y:Nat)
def evOf:Stp→List Ev
  | .ev e=>[e]
  | .leaf t _ _=>[⟨8,false,0,t⟩]
def exOf (X:List UInt8→List Ev):Stp→List Ev
  | .ev e=>[e]
  | .leaf t _ _=>X t
def flat (S:List Stp):List Ev:=S.flatMap evOf
def full (X:List UInt8→List Ev) (S:List Stp):List Ev:=S.flatMap (exOf X)
theorem flat_app (a b:List Stp):flat (a++b)=flat a++flat b:=by simp [flat]
theorem full_app (X:List UInt8→List Ev) (a b:List Stp):full X (a++b)=full X a++full X b:=by simp [full]
theorem flat_len (S:List Stp):(flat S).length=S.length:=by
  induction S with
  | nil=>rfl
  | cons s S ih =>
    show (evOf s++flat S).length=_
    cases s <;> simp [evOf,ih]
def expX (X:List UInt8→List Ev):Option Int→List Ev→List Ev
  | _,[]=>[]
  | p,e :: r=>(if e.kind=8∧p ≠ some 5 then X e.text else [e])++expX X (some e.kind) r
def lastX (p:Option Int) (l:List Ev):Option Int:=match l.getLast? with
  | some e=>some e.kind
  | none=>p
theorem lastX_cons (p:Option Int) (e:Ev) (l:List Ev):lastX p (e :: l)=lastX (some e.kind) l:=by
  unfold lastX
  cases l with
  | nil=>rfl
  | cons a b =>
    rw [List.getLast?_cons_cons]
    cases h:(a :: b).getLast? with
    | none=>simp at h
    | some x=>rfl
theorem expX_app (X:List UInt8→List Ev) (p:Option Int) (a b:List Ev):expX X p (a++b)=expX X p a++expX X (lastX p a) b:=by
  induction a generalizing p with
  | nil=>rfl
  | cons e a ih=>rw [List.cons_append,expX,expX,lastX_cons,ih,List.append_assoc]
theorem expX_ne (X:List UInt8→List Ev) (p:Option Int) (e:Ev) (r:List Ev) (h:e.kind ≠ 8):expX X p (e :: r)=e :: expX X (some e.kind) r:=by
  rw [expX,if_neg (fun x=>h x.1)]
  rfl
def SpIn:Nat→Nat→List Stp→Prop
  | a,b,[]=>a≤b
  | a,b,.ev _ :: r=>SpIn a b r
  | a,b,.leaf t x y :: r=>t ≠ []∧a≤x∧x < y∧SpIn y b r
theorem SpIn.le {a b:Nat} {S:List Stp} (h:SpIn a b S):a≤b:=by
  induction S generalizing a with
  | nil=>exact h
  | cons s S ih =>
    cases s with
    | ev e=>exact ih h
    | leaf t x y =>
      obtain ⟨_,h1,h2,h3⟩:=h
      have:=ih h3
      omega
theorem SpIn.from {a a' b:Nat} {S:List Stp} (h:SpIn a b S) (ha:a'≤a):SpIn a' b S:=by
  induction S with
  | nil=>exact Nat.le_trans ha h
  | cons s S ih =>
    cases s with
    | ev e=>exact ih h
    | leaf t x y =>
      obtain ⟨h0,h1,h2,h3⟩:=h
      exact ⟨h0,by omega,h2,h3⟩
theorem SpIn.upto {a b b':Nat} {S:List Stp} (h:SpIn a b S) (hb:b≤b'):SpIn a b' S:=by
  induction S generalizing a with
  | nil=>exact Nat.le_trans h hb
  | cons s S ih =>
    cases s with
    | ev e=>exact ih h
    | leaf t x y =>
      obtain ⟨h0,h1,h2,h3⟩:=h
      exact ⟨h0,h1,h2,ih h3⟩
theorem SpIn.app {a b c:Nat} {S R:List Stp} (h:SpIn a b S) (k:SpIn b c R):SpIn a c (S++R):=by
  induction S generalizing a with
  | nil=>exact k.from h
  | cons s S ih =>
    cases s with
    | ev e=>exact ih h
    | leaf t x y =>
      obtain ⟨h0,h1,h2,h3⟩:=h
      exact ⟨h0,h1,h2,ih h3⟩
structure SpOk (a b:Nat) (S:List Stp) (evs:List Ev):Prop where
  flat:flat S=evs
  exp:∀ X p,expX X p evs=full X S
  spans:SpIn a b S
theorem SpOk.nil (a:Nat):SpOk a a [] []:=⟨rfl,fun _ _=>rfl,Nat.le_refl _⟩
theorem SpOk.app {a b c:Nat} {S R:List Stp} {e f:List Ev} (h:SpOk a b S e) (k:SpOk b c R f):SpOk a c (S++R) (e++f) :=
  ⟨by rw [flat_app,h.flat,k.flat],fun X p=>by rw [expX_app,full_app,h.exp,k.exp],h.spans.app k.spans⟩
theorem SpOk.upto {a b b':Nat} {S:List Stp} {e:List Ev} (h:SpOk a b S e) (hb:b≤b'):SpOk a b' S e:=⟨h.flat,h.exp,h.spans.upto hb⟩
theorem SpOk.len {a b:Nat} {S:List Stp} {e:List Ev} (h:SpOk a b S e):S.length=e.length:=by rw [← h.flat,flat_len]
theorem SpOk.within {a b:Nat} {S:List Stp} {e:List Ev} (h:SpOk a b S e) (x y:Ev) (hx:x.kind ≠ 8) (hy:y.kind ≠ 8):SpOk a b ([.ev x]++S++[.ev y]) ([x]++e++[y]):=by
  refine ⟨by rw [flat_app,flat_app,h.flat];rfl,fun X p=>?_,?_⟩
  · rw [List.append_assoc,List.singleton_append,expX_ne _ _ _ _ hx,expX_app,h.exp,expX_ne _ _ _ _ hy,full_app,full_app]
    simp [full,exOf,expX]
  · exact (show SpIn a b ([.ev x]++S) from h.spans).app (show SpIn b b [.ev y] from Nat.le_refl b)
theorem SpOk.leaf (a n:Nat) (hn:1≤n) (k v:Int) (t:List UInt8) (hk:k ≠ 8) (h5:k ≠ 5):SpOk a (a+n) ([.ev ⟨k,false,v,[]⟩]++(if t=[] then [] else [.leaf t a (a+n)])++[.ev ⟨k,true,v,[]⟩]) (leafS k v t):=by
  unfold leafS
  by_cases ht:t=[]
  · rw [if_pos ht,if_pos ht]
    exact SpOk.within ((SpOk.nil a).upto (Nat.le_add_right a n)) ⟨k,false,v,[]⟩ ⟨k,true,v,[]⟩ hk hk
  · rw [if_neg ht,if_neg ht]
    refine ⟨rfl,fun X p=>?_,ht,Nat.le_refl _,by omega,Nat.le_refl _⟩
    rw [List.append_assoc,List.singleton_append,expX_ne _ _ _ _ hk,List.singleton_append,expX,if_pos ⟨rfl,fun h=>h5 (Option.some.inj h)⟩,expX_ne _ _ _ _ hk]
    simp [full,exOf,expX]
theorem SpOk.code (a b:Nat) (hb:a≤b) (t:List UInt8):SpOk a b ((leafS 5 0 t).map .ev) (leafS 5 0 t):=by
  unfold leafS
  by_cases ht:t=[]
  · rw [if_pos ht]
    exact SpOk.within ((SpOk.nil a).upto hb) ⟨5,false,0,[]⟩ ⟨5,true,0,[]⟩ (by decide) (by decide)
  · rw [if_neg ht]
    refine ⟨rfl,fun X p=>?_,hb⟩
    rw [List.append_assoc,List.singleton_append,expX_ne _ _ _ _ (by show (5:Int) ≠ 8;decide),List.singleton_append,expX,if_neg (fun h=>h.2 rfl),expX_ne _ _ _ _ (by show (5:Int) ≠ 8;decide)]
    simp [full,exOf,expX]
structure Tel where
  kd:Nat
  kl:Nat
  bd:Nat
  bl:Nat
  Own:World→Nat→Prop
  Told:List Stp→World→Prop
structure Kt (q:Tel) (x:Option Nat) (B:Nat) (W w':World):Prop where
  os:w'.os=W.os
  tape:w'.tape=W.tape
  output:w'.output=W.output
  size:W.heap.size≤w'.heap.size
  block:∀ b,b < B→some b ≠ x→¬ q.Own W b→w'.heap[b]?=W.heap[b]?
  own:∀ b,b < B→q.Own w' b→q.Own W b
structure Tel.Ok (q:Tel):Prop where
  ed:∀ args w,(callFunc q.kd args).run Tryz.prog w=.ok (.enter q.kd args) w
  el:∀ args w,(callFunc q.kl args).run Tryz.prog w=.ok (.enter q.kl args) w
  lt:∀ acc W,q.Told acc W→∀ b,q.Own W b→b < W.heap.size
  keep:∀ acc W w',q.Told acc W→(∀ b,q.Own W b→w'.heap[b]?=W.heap[b]?)→q.Told acc w'∧∀ b,q.Own w' b→q.Own W b
  typ:∀ acc W,q.Told acc W→∀ b,q.Own W b→∃ o,W.heap[b]?=some o∧∀ c T fz,o=.cells c T fz→T ≠ 5∧T ≠ 191
  doc:∀ acc ev W,q.Told acc W→acc.length≤1099511627776→Calls Tryz.prog q.kd #[evV ev,.pointer (some ⟨q.bd,0,none⟩)] W fun e w'=>e=.returned (.tuple #[])∧q.Told (acc++[.ev ev]) w'∧Kt q none W.heap.size W w'
  lfc:∀ acc t (x y:Nat) W,q.Told acc W→t ≠ []→acc.length≤1099511627776→Calls Tryz.prog q.kl #[.string ⟨t.toArray⟩,.agg #[.int .i64 x,.int .i64 y],.pointer (some ⟨q.bl,0,none⟩)] W fun e w'=>e=.returned (.tuple #[])∧q.Told (acc++[.leaf t x y]) w'∧Kt q none W.heap.size W w'
theorem Kt.refl (q:Tel) (x:Option Nat) (B:Nat) (W:World):Kt q x B W W:=⟨rfl,rfl,rfl,Nat.le_refl _,fun _ _ _ _=>rfl,fun _ _ h=>h⟩
theorem Kt.trans {q:Tel} {B:Nat} {x:Option Nat} {a b c:World} (h:Kt q x B a b) (k:Kt q x B b c):Kt q x B a c :=
  ⟨k.os.trans h.os,k.tape.trans h.tape,k.output.trans h.output,Nat.le_trans h.size k.size,fun i hi hx ho=>(k.block i hi hx fun ho'=>ho (h.own i hi ho')).trans (h.block i hi hx ho),fun i hi ho=>h.own i hi (k.own i hi ho)⟩
theorem Kt.mono {q:Tel} {B B':Nat} {x:Option Nat} {a b:World} (h:Kt q x B a b) (hB:B'≤B):Kt q x B' a b :=
  ⟨h.os,h.tape,h.output,h.size,fun i hi=>h.block i (by omega),fun i hi=>h.own i (by omega)⟩
theorem Kt.weak {q:Tel} {B:Nat} {x:Option Nat} {a b:World} (h:Kt q none B a b):Kt q x B a b :=
  ⟨h.os,h.tape,h.output,h.size,fun i hi _=>h.block i hi (by simp),h.own⟩
theorem Kt.past {q:Tel} {B g:Nat} {a b:World} (h:Kt q (some g) B a b) (hg:B≤g):Kt q none B a b :=
  ⟨h.os,h.tape,h.output,h.size,fun i hi _=>h.block i hi (by intro he;injection he with he;omega),h.own⟩
theorem Kt.off {q:Tel} {B g:Nat} {x:Option Nat} {a b:World} (h:Kt q x B a b) (hg:g < B) (ho:¬ q.Own a g):¬ q.Own b g:=fun h'=>ho (h.own g hg h')
variable {q:Tel} {acc:List Stp} {W w':World}
theorem Tel.Ok.below (hq:q.Ok) (hT:q.Told acc W) (hb:Below W.heap.size W w'):q.Told acc w':=(hq.keep acc W w' hT fun b ho=>hb.block b (hq.lt acc W hT b ho)).1
theorem Tel.Ok.alloc (hq:q.Ok) (hT:q.Told acc W) (o:Obj):q.Told acc (W.alloc o):=hq.below hT ((Below.refl _ W).alloc (Nat.le_refl _) o)
theorem Tel.Ok.kt (hq:q.Ok) (hT:q.Told acc W) (hb:Below W.heap.size W w') {x:Option Nat}:Kt q x W.heap.size W w' :=
  ⟨hb.os,hb.tape,hb.output,hb.size,fun i hi _ _=>hb.block i hi,fun i _ ho=>(hq.keep acc W w' hT fun b ho=>hb.block b (hq.lt acc W hT b ho)).2 i ho⟩
theorem Tel.Ok.off (hq:q.Ok) (hT:q.Told acc W) (hb:Below W.heap.size W w') {b:Nat} (ho:¬ q.Own W b):¬ q.Own w' b:=fun h=>ho ((hq.keep acc W w' hT fun b ho=>hb.block b (hq.lt acc W hT b ho)).2 b h)
theorem Tel.Ok.new (hq:q.Ok) (hT:q.Told acc W) (hb:Below W.heap.size W w') {b:Nat} (hl:W.heap.size≤b):¬ q.Own w' b:=hq.off hT hb fun h=>by
  have:=hq.lt acc W hT b h
  omega
theorem Tel.Ok.set (hq:q.Ok) (hT:q.Told acc W) {a:Addr} (ha:¬ q.Own W a.block) (u:Value):q.Told acc (W.setCell a u)∧(∀ b,q.Own (W.setCell a u) b→q.Own W b) :=
  hq.keep acc W _ hT fun b ho=>Below.heap_setCell W a u b fun he=>ha (he ▸ ho)
end Go.Proofs.YtljcljipppjnoaaGreatDoor
namespace Go.Proofs.YtljcljipppjnoaaGreatDoor
open Go.RowKit
def doV (kd b0:Nat):Value:=.func (.func kd) #[] #[.pointer (some ⟨b0,0,none⟩)]
def evEnd (e:Ev):Ev:=⟨e.kind,true,e.level,[]⟩
set_option maxRecDepth 100000 in
set_option maxHeartbeats 2000000 in
theorem etext_any (kd:Nat) (hD:DoC kd) (b0:Nat) (acc:List Ev) (t:List UInt8) (W:World) (hT:Told b0 acc W) (hlen:acc.length≤1099511627776) :
    Calls Tryz.prog 62 #[.string ⟨t.toArray⟩,.func (.func kd) #[] #[.pointer (some ⟨b0,0,none⟩)]] W fun e w'=>e=.returned (.tuple #[])∧Told b0 (acc++(if t=[] then [] else [⟨8,false,0,t⟩])) w'∧Kp b0 none W.heap.size W w':=by
  have hl:(⟨t.toArray⟩:ByteArray).toList=t:=by rw [list_of]
  by_cases h:t=[]
  · subst h
    rw [if_pos rfl,List.append_nil]
    go_enter Tryz.func62,Tryz.ntmps62
    go_wp2
    go_end0
    exact ⟨rfl,hT,Kp.refl _ _ _ _⟩
  · rw [if_neg h]
    have hc:=hD.2 b0 acc ⟨8,false,0,t⟩ W hT hlen
    have ek:=hD.1
    unfold evV at hc
    have hne:(!t.isEmpty)=true:=by
      cases t with
      | nil=>exact absurd rfl h
      | cons a b=>rfl
    clear hT hl hD
    go_enter Tryz.func62,Tryz.ntmps62
    go_wp2_with (go_at_fn kd;refine hc.mono ?_;rintro e w1 ⟨rfl,T1,K1⟩)
    go_end0
    exact ⟨rfl,T1,K1⟩
theorem own_new {b0:Nat} {acc:List Ev} {W w':World} (h:Told b0 acc W) (hw:w'.heap[b0]?=W.heap[b0]?) {b:Nat} (hb:W.heap.size≤b):¬ Own b0 w' b:=fun ho=>by
  have:=h.own_lt ((Own.same hw b).1 ho)
  omega
theorem heap_al (W:World) (o:Obj) {k:Nat} {q:Option Obj} (hk:k < W.heap.size) (h:W.heap[k]?=q):(W.alloc o).heap[k]?=q:=by
  rw [Below.heap_alloc W o k hk]
  exact h
end Go.Proofs.YtljcljipppjnoaaGreatDoor
namespace Go.Proofs.YtljcljipppjnoaaGreatDoor
open Go.RowKit
set_option maxRecDepth 100000 in
set_option maxHeartbeats 2000000 in
theorem twithin_gen (q:Tel) (hq:q.Ok) (x:Option Nat) (acc:List Stp) (M:List Stp→Prop) (L:Nat) (hM:∀ mid,M mid→mid.length≤L) (ev:Ev) (k:Nat) (capt:Array Value) (W:World) (R:World→Prop)
    (ek:∀ args w,(callFunc k args).run Tryz.prog w=.ok (.enter k args) w)
    (hT:q.Told acc W) (hlen:acc.length+1+L≤1099511627776) (Bk:Nat) (hBk:Bk≤W.heap.size)
    (hin:∀ W',q.Told (acc++[.ev ev]) W'→Kt q none W.heap.size W W'→W'.heap[W.heap.size]?=some (.cells #[.int .i64 ev.kind,.bool ev.fin,.int .i64 ev.level,.string ⟨ev.text.toArray⟩] 92 (0,0))→¬ q.Own W' W.heap.size→Calls Tryz.prog k capt W' fun e w'=>e=.returned (.tuple #[])∧∃ mid,M mid∧q.Told (acc++[.ev ev]++mid) w'∧Kt q x Bk W' w'∧w'.heap[W.heap.size]?=W'.heap[W.heap.size]?∧R w')
    (hR:∀ W1 w2,R W1→Kt q none W.heap.size W1 w2→R w2) :
    Calls Tryz.prog 152 #[.agg #[.int .i64 ev.kind,.bool ev.fin,.int .i64 ev.level,.string ⟨ev.text.toArray⟩],.func (.func q.kd) #[] #[.pointer (some ⟨q.bd,0,none⟩)],.func (.func k) #[] capt] W fun e w'=>e=.returned (.tuple #[])∧∃ mid,M mid∧q.Told (acc++([.ev ev]++mid++[.ev (evEnd ev)])) w'∧Kt q x Bk W w'∧R w':=by
  have hmf:∀ (fn:Fn) (first cap:Array Value) (w:World),(Instr.makeFunc fn first cap).run Tryz.prog w=.ok (.func fn first cap) w:=fun _ _ _ _=>rfl
  have ekd:=hq.ed
  obtain ⟨W1,hW1⟩:∃ W1,W.alloc (.cells #[.int .i64 ev.kind,.bool ev.fin,.int .i64 ev.level,.string ⟨ev.text.toArray⟩] 92)=W1:=⟨_,rfl⟩
  have hB1:Below W.heap.size W W1:=by rw [← hW1];exact (Below.refl _ W).alloc (Nat.le_refl _) _
  have hT1:q.Told acc W1:=hq.below hT hB1
  have z1:W1.heap.size=W.heap.size+1:=by rw [← hW1];simp
  have hE1:W1.heap[W.heap.size]?=some (.cells #[.int .i64 ev.kind,.bool ev.fin,.int .i64 ev.level,.string ⟨ev.text.toArray⟩] 92 (0,0)):=by
    rw [← hW1]
    exact heap_alloc_new W _
  have hK1:Kt q none W.heap.size W W1:=hq.kt hT hB1
  have hO1:¬ q.Own W1 W.heap.size:=hq.new hT hB1 (Nat.le_refl _)
  have hdo1:=hq.doc acc ev W1 hT1 (by omega)
  unfold evV at hdo1
  have hdo2:Calls Tryz.prog q.kd #[.agg #[.int .i64 ev.kind,.bool ev.fin,.int .i64 ev.level,.string ⟨ev.text.toArray⟩],.pointer (some ⟨q.bd,0,none⟩)] (W.alloc (.cells #[.int .i64 ev.kind,.bool ev.fin,.int .i64 ev.level,.string ⟨ev.text.toArray⟩] 92)) fun e w'=>e=.returned (.tuple #[])∧q.Told (acc++[.ev ev]) w'∧Kt q none W1.heap.size W1 w':=by
    rw [hW1]
    exact hdo1
  have hdo3:∀ w2 mid,M mid→q.Told (acc++[.ev ev]++mid) w2→Calls Tryz.prog q.kd #[.agg #[.int .i64 ev.kind,.bool true,.int .i64 ev.level,.string ⟨#[]⟩],.pointer (some ⟨q.bd,0,none⟩)] w2 fun e w'=>e=.returned (.tuple #[])∧q.Told (acc++[.ev ev]++mid++[.ev (evEnd ev)]) w'∧Kt q none w2.heap.size w2 w':=by
    intro w2 mid hmid hT2
    exact hq.doc (acc++[.ev ev]++mid) (evEnd ev) _ hT2 (by have:=hM mid hmid;simp only [List.length_append,List.length_singleton];omega)
  have hE2:∀ w1,Kt q none W1.heap.size W1 w1→w1.heap[W.heap.size]?=some (.cells #[.int .i64 ev.kind,.bool ev.fin,.int .i64 ev.level,.string ⟨ev.text.toArray⟩] 92 (0,0))∧¬ q.Own w1 W.heap.size :=
    fun w1 k1=>⟨(k1.block W.heap.size (by omega) (by simp) hO1).trans hE1,k1.off (by omega) hO1⟩
  have HE:Hid _:=hE2
  have HD:Hid _:=hdo3
  have HK:Hid (Kt q none W.heap.size W W1):=hK1
  have Hin:Hid _:=hin
  have HR:Hid _:=hR
  have HQ:Hid q.Ok:=hq
  clear hE2 hdo3 hdo1 hin hR hE1 hO1 hT1 hK1 hT hW1 hB1 hq hM
  go_enter Tryz.func152,Tryz.ntmps152
  go_wp2_with (first
    | (go_at_fn q.kd;refine (HD.out w2 mid hmid T2).mono ?_;rintro e w3 ⟨rfl,T3,K3⟩)
    | (go_at_fn q.kd;refine hdo2.mono ?_;rintro e w1 ⟨rfl,T1,K1⟩)
    | (go_at_fn k;refine (Hin.out w1 T1 (HK.out.trans (K1.mono (by omega))) (HE.out w1 K1).1 (HE.out w1 K1).2).mono ?_;rintro e w2 ⟨rfl,mid,hmid,T2,K2,e2,r2⟩;have hB2:=e2.trans (HE.out w1 K1).1;clear e2;have c0:=cell_of_row w2 W.heap.size 0 _ _ _ hB2;have c1:=cell_of_row w2 W.heap.size 1 _ _ _ hB2;have c2:=cell_of_row w2 W.heap.size 2 _ _ _ hB2;have c3:=cell_of_row w2 W.heap.size 3 _ _ _ hB2;simp at c0 c1 c2 c3))
  go_end0
  have s1:=K1.size
  have s2:=K2.size
  have k3:Kt q none W.heap.size w2 w3:=K3.mono (by omega)
  exact ⟨rfl,mid,hmid,by simpa using T3,(((HK.out.mono hBk).weak.trans (K1.mono (by omega)).weak).trans K2).trans (k3.mono hBk).weak,HR.out w2 w3 r2 k3⟩
theorem twithin_any (q:Tel) (hq:q.Ok) (x:Option Nat) (acc:List Stp) (M:List Stp→Prop) (L:Nat) (hM:∀ mid,M mid→mid.length≤L) (ev:Ev) (k:Nat) (capt:Array Value) (W:World) (R:World→Prop)
    (ek:∀ args w,(callFunc k args).run Tryz.prog w=.ok (.enter k args) w)
    (hT:q.Told acc W) (hlen:acc.length+1+L≤1099511627776) (hx:∀ g,x=some g→g < W.heap.size)
    (hin:∀ W',q.Told (acc++[.ev ev]) W'→Kt q none W.heap.size W W'→Calls Tryz.prog k capt W' fun e w'=>e=.returned (.tuple #[])∧∃ mid,M mid∧q.Told (acc++[.ev ev]++mid) w'∧Kt q x W'.heap.size W' w'∧R w')
    (hR:∀ W1 w2,R W1→Kt q none W.heap.size W1 w2→R w2) :
    Calls Tryz.prog 152 #[.agg #[.int .i64 ev.kind,.bool ev.fin,.int .i64 ev.level,.string ⟨ev.text.toArray⟩],.func (.func q.kd) #[] #[.pointer (some ⟨q.bd,0,none⟩)],.func (.func k) #[] capt] W fun e w'=>e=.returned (.tuple #[])∧∃ mid,M mid∧q.Told (acc++([.ev ev]++mid++[.ev (evEnd ev)])) w'∧Kt q x W.heap.size W w'∧R w' :=
  twithin_gen q hq x acc M L hM ev k capt W R ek hT hlen W.heap.size (Nat.le_refl _) (fun W' hT' hK' he ho=>(hin W' hT' hK').mono fun e w' h=>by
    obtain ⟨h1,mid,h2,h3,h4,h5⟩:=h
    exact ⟨h1,mid,h2,h3,h4.mono hK'.size,h4.block _ (Array.getElem?_eq_some_iff.1 he).1 (fun h=>by have:=hx _ h.symm;omega) ho,h5⟩) hR
set_option maxRecDepth 100000 in
set_option maxHeartbeats 2000000 in
theorem ttext_any (q:Tel) (hq:q.Ok) (acc:List Stp) (t:List UInt8) (W:World) (hT:q.Told acc W) (hlen:acc.length≤1099511627776) :
    Calls Tryz.prog 62 #[.string ⟨t.toArray⟩,.func (.func q.kd) #[] #[.pointer (some ⟨q.bd,0,none⟩)]] W fun e w'=>e=.returned (.tuple #[])∧q.Told (acc++(if t=[] then [] else [.ev ⟨8,false,0,t⟩])) w'∧Kt q none W.heap.size W w':=by
  have hl:(⟨t.toArray⟩:ByteArray).toList=t:=by rw [list_of]
  by_cases h:t=[]
  · subst h
    rw [if_pos rfl,List.append_nil]
    clear hq
    go_enter Tryz.func62,Tryz.ntmps62
    go_wp2
    go_end0
    exact ⟨rfl,hT,Kt.refl _ _ _ _⟩
  · rw [if_neg h]
    have hc:=hq.doc acc ⟨8,false,0,t⟩ W hT hlen
    have ek:=hq.ed
    unfold evV at hc
    have hne:(!t.isEmpty)=true:=by
      cases t with
      | nil=>exact absurd rfl h
      | cons a b=>rfl
    clear hT hl hq
    go_enter Tryz.func62,Tryz.ntmps62
    go_wp2_with (go_at_fn q.kd;refine hc.mono ?_;rintro e w1 ⟨rfl,T1,K1⟩)
    go_end0
    exact ⟨rfl,T1,K1⟩
theorem Strs.kept {q:Tel} {g o cap B:Nat} {x:Option Nat} {ls:List (List UInt8)} {W w':World} (h:Strs g o cap ls W) (hk:Kt q x B W w') (hg:g < B) (hx:some g ≠ x) (ho:¬ q.Own W g):Strs g o cap ls w' :=
  ⟨h.fits,h.max,by have:=hk.size;have:=h.lt;omega,fun j l hj=>(World.cell?_of_block (w:=W) (hk.block g hg hx ho):w'.cell? ⟨g,o+j,Option.none⟩=W.cell? ⟨g,o+j,Option.none⟩).trans (h.cell j l hj)⟩
end Go.Proofs.YtljcljipppjnoaaGreatDoor
namespace Go.Proofs.YtljcljipppjnoaaGreatDoor
open Go.RowKit
structure Fp (O O':Nat→Prop) (W w':World):Prop where
  os:w'.os=W.os
  tape:w'.tape=W.tape
  output:w'.output=W.output
  size:W.heap.size≤w'.heap.size
  block:∀ b,b < W.heap.size→¬ O b→w'.heap[b]?=W.heap[b]?
  grow:∀ b,O' b→O b∨W.heap.size≤b
theorem Fp.refl (O:Nat→Prop) (W:World):Fp O O W W:=⟨rfl,rfl,rfl,Nat.le_refl _,fun _ _ _=>rfl,fun _ h=>Or.inl h⟩
theorem Fp.trans {O O1 O2:Nat→Prop} {a b c:World} (h:Fp O O1 a b) (k:Fp O1 O2 b c):Fp O O2 a c :=
  ⟨k.os.trans h.os,k.tape.trans h.tape,k.output.trans h.output,Nat.le_trans h.size k.size,fun i hi ho=>(k.block i (Nat.lt_of_lt_of_le hi h.size) fun ho'=>by
    rcases h.grow i ho' with h1 | h1
    · exact ho h1
    · omega).trans (h.block i hi ho),fun i ho=>by
    rcases k.grow i ho with h1 | h1
    · exact h.grow i h1
    · exact Or.inr (Nat.le_trans h.size h1)⟩
theorem Fp.below {O:Nat→Prop} {W w':World} (h:Below W.heap.size W w'):Fp O O W w':=⟨h.os,h.tape,h.output,h.size,fun b hb _=>h.block b hb,fun _ h=>Or.inl h⟩
theorem Fp.other {O O' P:Nat→Prop} {W w':World} (h:Fp O O' W w') (hd:∀ x,O x→¬ P x) (hl:∀ x,P x→x < W.heap.size):∀ x,P x→w'.heap[x]?=W.heap[x]?:=fun x hx=>h.block x (hl x hx) fun ho=>hd x ho hx
theorem Fp.apart {O O' P:Nat→Prop} {W w':World} (h:Fp O O' W w') (hd:∀ x,O x→¬ P x) (hl:∀ x,P x→x < W.heap.size):∀ x,O' x→¬ P x:=fun x ho hp=>by
  rcases h.grow x ho with h1 | h1
  · exact hd x h1 hp
  · have:=hl x hp
    omega
theorem Fp.low {O O':Nat→Prop} {W w':World} {B:Nat} (h:Fp O O' W w') (hB:B≤W.heap.size) (hl:∀ x,O x→B≤x):∀ x,O' x→B≤x:=fun x ho=>by
  rcases h.grow x ho with h1 | h1
  · exact hl x h1
  · omega
theorem Fp.under {O O':Nat→Prop} {W w':World} {B:Nat} (h:Fp O O' W w') (hB:B≤W.heap.size) (hl:∀ x,O x→B≤x):Below B W w':=⟨h.os,h.tape,h.output,h.size,fun b hb=>h.block b (by omega) fun ho=>by have:=hl b ho;omega⟩
theorem Fp.past {O O':Nat→Prop} {W w X:World} (h:Fp O O' W w) {n:Nat} (hn:W.heap.size≤n) (hx:∀ x,x ≠ n→X.heap[x]?=w.heap[x]?) (hz:X.heap.size=w.heap.size) (h1:X.os=w.os) (h2:X.tape=w.tape) (h3:X.output=w.output):Fp O O' W X :=
  ⟨h1.trans h.os,h2.trans h.tape,h3.trans h.output,by have:=h.size;omega,fun b hb ho=>(hx b (by omega)).trans (h.block b hb ho),h.grow⟩
end Go.Proofs.YtljcljipppjnoaaGreatDoor
namespace Go.Proofs.YtljcljipppjnoaaGreatDoor
open Go.RowKit
structure OwnS {β:Type} (J:β→(Nat→Prop)→World→Prop):Prop where
  keep:∀ s O W w',J s O W→(∀ x,O x→w'.heap[x]?=W.heap[x]?)→W.heap.size≤w'.heap.size→J s O w'
  lt:∀ s O W,J s O W→∀ x,O x→x < W.heap.size
theorem yield_wide {m m':Nat} {P:Program} {l:Nat} {args:Array Value} {W:World} {R:Ending→World→Prop} (h:YieldAt Fence.wide m P l args W R):YieldAt Fence.wide m' P l args W R:=by
  obtain ⟨fn,tmps,assign,body,hy,hR⟩:=h
  exact ⟨fn,tmps,assign,body,hy,hR.1,fun c cs _=>hR.2 c cs (room_wide _)⟩
def SeqF {α:Type} (P:Program) (w0:World) (gf:Nat) (lb:Array Value) (encs:α→Array Value) (xs:List α) (R R':(Nat→Prop)→World→Prop):Prop :=
  ∀ (l:Nat) (J Jx:List α→(Nat→Prop)→World→Prop) (OI OJ:Nat→Prop) (W:World),OwnS J→OwnS Jx→Below w0.heap.size w0 W→(∀ x,OI x∨OJ x→w0.heap.size≤x)→R OI W→J [] OJ W→(∀ x,OI x→¬ OJ x) →
    (∀ pre x rest O1 W1,pre++x :: rest=xs→Below w0.heap.size w0 W1→(∀ y,O1 y→w0.heap.size≤y)→J pre O1 W1→YieldAt Fence.wide 0 P l (encs x) W1 fun e W'=>∃ O',Fp O1 O' W1 W'∧((e=.returned (.bool true)∧J (pre++[x]) O' W')∨(e=.returned (.bool false)∧Jx (pre++[x]) O' W'))) →
    Calls P gf (#[.func (.yield l) #[] #[]]++lb) W fun e W'=>(∃ v,e=.returned v)∧∃ OI' OJ',R' OI' W'∧(∀ x,OI' x→¬ OJ' x)∧Fp (fun x=>OI x∨OJ x) (fun x=>OI' x∨OJ' x) W W'∧(J xs OJ' W'∨∃ pre,Jx pre OJ' W')
def fpPost {α:Type} (I Ix:List α→(Nat→Prop)→World→Prop) (s:List α) (O:Nat→Prop) (W:World):Exit→Act→World→Prop
  | .normal,_,W'=>∃ O',Fp O O' W W'∧I s O' W'
  | .ret,_,W'=>∃ O',Fp O O' W W'∧Ix s O' W'
  | _,_,_=>False
def RoundJ {α:Type} (I:List α→(Nat→Prop)→World→Prop) (l D:Nat) (r:Loop) (s:List α) (OJ:Nat→Prop) (W:World):Prop :=
  ∃ O,I s O W∧W.heap[l]?=some (.loop r)∧W.heap[D]?=some (.deferred (some []))∧¬ O l∧¬ O D∧l ≠ D∧∀ x,OJ x ↔ (O x∨x=l∨x=D)
theorem RoundJ.own {α:Type} {I:List α→(Nat→Prop)→World→Prop} (kI:OwnS I) (l D:Nat) (r:Loop):OwnS (RoundJ I l D r):=by
  refine ⟨?_,?_⟩
  · rintro s OJ W w' ⟨O,h1,h2,h3,h4,h5,h6,h7⟩ hk hz
    exact ⟨O,kI.keep s O W w' h1 (fun x hx=>hk x ((h7 x).2 (Or.inl hx))) hz,(hk l ((h7 l).2 (Or.inr (Or.inl rfl)))).trans h2,(hk D ((h7 D).2 (Or.inr (Or.inr rfl)))).trans h3,h4,h5,h6,h7⟩
  · rintro s OJ W ⟨O,h1,h2,h3,h4,h5,h6,h7⟩ x hx
    rcases (h7 x).1 hx with h | rfl | rfl
    · exact kI.lt s O W h1 x h
    · exact (Array.getElem?_eq_some_iff.1 h2).1
    · exact (Array.getElem?_eq_some_iff.1 h3).1
theorem rangeF {α:Type} {P:Program} {n:Nat} {g:Operand} {ps:Array Tmp} {assign body:Code} {Q:Exit→Act→World→Prop} {a:Act} {w w0:World}
    {gf:Nat} {lb:Array Value} (hg:a.eval g=.func (.func gf) #[] lb) (eg:∀ args w,(callFunc gf args).run P w=.ok (.enter gf args) w)
    {encs:α→Array Value} {xs:List α} {R R':(Nat→Prop)→World→Prop} (hseq:SeqF P w0 gf lb encs xs R R') (hps:∀ x,(encs x).size=ps.size)
    (kR:OwnS fun (_:Unit)=>R) (kR':OwnS fun (_:Unit)=>R') (I Ix:List α→(Nat→Prop)→World→Prop) (kI:OwnS I) (kX:OwnS Ix) {OI O:Nat→Prop}
    (hb:Below w0.heap.size w0 w) (hlow:∀ x,OI x∨O x→w0.heap.size≤x) (hr:R OI w) (h0:I [] O w) (hd:∀ x,OI x→¬ O x) (I1:List α × α × Act→(Nat→Prop)→World→Prop) (k1:OwnS I1)
    (hassign:∀ (l:Nat) (pre:List α) (x:α) (rest:List α) (O:Nat→Prop) (W:World) (K:Act→World→Prop),pre++x :: rest=xs→Below w0.heap.size w0 W→(∀ y,O y→w0.heap.size≤y)→I pre O W→(∀ a' O' W',Fp O O' W W'→I1 (pre,x,a') O' W'→K a' W') →
      assign.wpIn (Fence.wide.inRound l) 0 P (Exit.then K (fun _ _ _=>False)) { tmps:=(ps.zip (encs x)).foldl (fun t (p,v)=>t.setIfInBounds p v) a.tmps,defers:=[] } W)
    (hbody:∀ (l:Nat) (pre:List α) (x:α) (rest:List α) (a':Act) (O:Nat→Prop) (W:World),pre++x :: rest=xs→Below w0.heap.size w0 W→(∀ y,O y→w0.heap.size≤y)→I1 (pre,x,a') O W→body.wpIn (Fence.wide.inRound l) 0 P (fpPost I Ix (pre++[x]) O W) a' W)
    (hdone:∀ (D:Nat) (OI' O':Nat→Prop) (W:World),R' OI' W→I xs O' W→(∀ x,OI' x→¬ O' x)→Fp (fun x=>OI x∨O x) (fun x=>OI' x∨O' x) w W→W.heap[D]?=some (.deferred (some []))→w.heap.size≤D→¬ OI' D→¬ O' D→Q .normal { a with defers:={ target:=.collected D,args:=#[] } :: a.defers } W)
    (hstop:∀ (D:Nat) (pre:List α) (OI' O':Nat→Prop) (W:World),R' OI' W→Ix pre O' W→(∀ x,OI' x→¬ O' x)→Fp (fun x=>OI x∨O x) (fun x=>OI' x∨O' x) w W→W.heap[D]?=some (.deferred (some []))→w.heap.size≤D→¬ OI' D→¬ O' D→Code.ret.wpIn Fence.wide n P Q { a with defers:={ target:=.collected D,args:=#[] } :: a.defers } W) :
    (Code.rangeFunc g ps assign body).wpIn Fence.wide n P Q a w:=by
  refine wpIn_rangeFunc ?_
  intro fn _
  obtain ⟨rc,hrc⟩:∃ rc:LoopState→Option Code→Loop,rc=fun st pe=>{ state:=st,pending:=pe,fn,tmps:=a.tmps,params:=ps,assign,body,defers:=w.heap.size }:=⟨_,rfl⟩
  obtain ⟨W1,hW1⟩:∃ W1,(w.alloc (.deferred (some []))).alloc (.loop (rc .ready none))=W1:=⟨_,rfl⟩
  have hL1:W1.heap[w.heap.size+1]?=some (.loop (rc .ready none)):=by
    rw [← hW1]
    have:=World.alloc_heap_new (w.alloc (.deferred (some []))) (.loop (rc .ready none))
    rwa [World.size_alloc] at this
  have hK1:W1.heap[w.heap.size]?=some (.deferred (some [])):=by
    rw [← hW1]
    exact (Below.heap_alloc _ _ _ (by simp)).trans (World.alloc_heap_new w _)
  have b1:Below w.heap.size w W1:=by
    rw [← hW1]
    exact ((Below.refl _ w).alloc (Nat.le_refl _) _).alloc (by simp) _
  have z1:W1.heap.size=w.heap.size+2:=by rw [← hW1];simp
  have kept:∀ x,x < w.heap.size→W1.heap[x]?=w.heap[x]?:=fun x hx=>b1.block x hx
  have hIlt:=kI.lt _ _ _ h0
  have hRlt:=kR.lt () _ _ hr
  have hJ0:RoundJ I (w.heap.size+1) w.heap.size (rc .ready none) [] (fun x=>O x∨x=w.heap.size+1∨x=w.heap.size) W1 :=
    ⟨O,kI.keep _ _ _ _ h0 (fun x hx=>kept x (hIlt x hx)) b1.size,hL1,hK1,fun h=>by have:=hIlt _ h;omega,fun h=>by have:=hIlt _ h;omega,by omega,fun x=>Iff.rfl⟩
  have hR1:R OI W1:=kR.keep () _ _ _ hr (fun x hx=>kept x (hRlt x hx)) b1.size
  have hlow1:∀ x,OI x∨(O x∨x=w.heap.size+1∨x=w.heap.size)→w0.heap.size≤x:=by
    have:=hb.size
    rintro x (h | h | rfl | rfl)
    · exact hlow x (Or.inl h)
    · exact hlow x (Or.inr h)
    · omega
    · omega
  have hd1:∀ x,OI x→¬ (O x∨x=w.heap.size+1∨x=w.heap.size):=by
    rintro x h (h1 | rfl | rfl)
    · exact hd x h h1
    · have:=hRlt _ h;omega
    · have:=hRlt _ h;omega
  have hb1:Below w0.heap.size w0 W1:=hb.trans (b1.mono hb.size)
  refine ⟨w.heap.size+1,[{ target:=.collected w.heap.size,args:=#[] }],W1,{ target:=.fn (.func gf) lb,args:=#[.func (.yield (w.heap.size+1)) #[] #[]] },W1,gf,
    #[.func (.yield (w.heap.size+1)) #[] #[]]++lb,W1,?_,?_,fun _ _=>trivial,?_,fun h=>(by cases h),?_⟩
  · rw [← hW1,hrc]
    exact run_enterLoop_outer _ _ _ _ _
  · simp only [resolve,hg]
    simp [go_sem]
  · simp [invoke,go_sem,eg]
  · refine callsIn_wide.2 ((hseq (w.heap.size+1) (RoundJ I (w.heap.size+1) w.heap.size (rc .ready none)) (RoundJ Ix (w.heap.size+1) w.heap.size (rc .done (some .ret))) OI (fun x=>O x∨x=w.heap.size+1∨x=w.heap.size) W1 (RoundJ.own kI _ _ _) (RoundJ.own kX _ _ _) hb1 hlow1 hR1 hJ0 hd1 ?_).mono ?_)
    · rintro pre x rest O1 W hx hbW hlo ⟨OC,hi,hl,hk,nl,nD,_,hiff⟩
      have hlt:w.heap.size+1 < W.heap.size:=(Array.getElem?_eq_some_iff.1 hl).1
      have hy:=run_yield (P:=P) (args:=encs x) hl (by rw [hrc];exact hps x)
      rw [hrc] at hy
      have hloC:∀ y,OC y→w0.heap.size≤y:=fun y hy=>hlo y ((hiff y).2 (Or.inl hy))
      refine ⟨fn,_,assign,body,hy,roundIn_of_wpIn trivial (hassign _ pre x rest OC W _ hx hbW hloC hi ?_)⟩
      intro a' OA WA hfA hiA
      have zA:=hfA.size
      have hlA:WA.heap[w.heap.size+1]?=some (.loop (rc .ready none)):=(hfA.block _ hlt nl).trans hl
      have hkA:WA.heap[w.heap.size]?=some (.deferred (some [])):=(hfA.block _ (by omega) nD).trans hk
      have nlA:¬ OA (w.heap.size+1):=fun h=>by
        rcases hfA.grow _ h with h | h
        · exact nl h
        · omega
      have nDA:¬ OA w.heap.size:=fun h=>by
        rcases hfA.grow _ h with h | h
        · exact nD h
        · omega
      refine ⟨_,run_beginRound hlA (by rw [hrc]),?_⟩
      obtain ⟨W2,hW2⟩:∃ W2,WA.putObj (w.heap.size+1) (.loop { rc .ready none with state:=.busy })=W2:=⟨_,rfl⟩
      rw [hW2]
      have s2:W2.heap.size=WA.heap.size:=by rw [← hW2];simp
      have o2:∀ y,y ≠ w.heap.size+1→W2.heap[y]?=WA.heap[y]?:=fun y hy=>by rw [← hW2];exact World.putObj_heap_other hy
      have l2:W2.heap[w.heap.size+1]?=some (.loop { rc .ready none with state:=.busy }):=by rw [← hW2];exact World.putObj_heap_same (by omega)
      have k2:W2.heap[w.heap.size]?=some (.deferred (some [])):=(o2 _ (by omega)).trans hkA
      have hfr:W2.os=W.os∧W2.tape=W.tape∧W2.output=W.output:=by rw [← hW2];exact ⟨hfA.os,hfA.tape,hfA.output⟩
      have i2:I1 (pre,x,a') OA W2:=k1.keep _ _ _ _ hiA (fun y hy=>o2 y (fun e=>nlA (e ▸ hy))) (by omega)
      have hz:=hb.size
      have hloA:∀ y,OA y→w0.heap.size≤y:=hfA.low (by omega) hloC
      have b2:Below w0.heap.size w0 W2:=by
        have bA:Below w0.heap.size W WA:=hfA.under (by omega) hloC
        exact hbW.trans ⟨hfr.1,hfr.2.1,hfr.2.2,by omega,fun y hy=>(o2 y (by omega)).trans (bA.block y hy)⟩
      refine wpIn_mono (hbody _ pre x rest a' OA W2 hx b2 hloA i2) ?_
      have fin:∀ (jump:Option Code) (I':List α→(Nat→Prop)→World→Prop) (W3:World) (O':Nat→Prop),OwnS I'→Fp OA O' W2 W3→I' (pre++[x]) O' W3→∃ v W4,(Instr.endRound (w.heap.size+1) jump).run P W3=.ok v W4∧v=.bool jump.isNone∧∃ O4,Fp O1 O4 W W4∧RoundJ I' (w.heap.size+1) w.heap.size (rc (if jump.isNone then .ready else .done) jump) (pre++[x]) O4 W4:=by
        intro jump I' W3 O' kI' hf hi3
        have hl3:W3.heap[w.heap.size+1]?=some (.loop { rc .ready none with state:=.busy }):=(hf.block _ (by omega) nlA).trans l2
        have hk3:W3.heap[w.heap.size]?=some (.deferred (some [])):=(hf.block _ (by omega) nDA).trans k2
        have nl3:¬ O' (w.heap.size+1):=fun h=>by
          rcases hf.grow _ h with h | h
          · exact nlA h
          · omega
        have nD3:¬ O' w.heap.size:=fun h=>by
          rcases hf.grow _ h with h | h
          · exact nDA h
          · omega
        have hlt3:=(Array.getElem?_eq_some_iff.1 hl3).1
        have her:=run_endRound (P:=P) jump hl3
        rw [hrc] at her
        refine ⟨_,_,her,rfl,fun y=>O' y∨y=w.heap.size+1∨y=w.heap.size,?_,O',kI'.keep _ _ _ _ hi3 (fun y hy=>World.putObj_heap_other (fun e=>nl3 (e ▸ hy))) (by simp),?_,(World.putObj_heap_other (by omega)).trans hk3,nl3,nD3,by omega,fun y=>Iff.rfl⟩
        · have s3:=hf.size
          refine ⟨hf.os.trans hfr.1,hf.tape.trans hfr.2.1,hf.output.trans hfr.2.2,by simp;omega,fun y hy ho=>?_,fun y hy=>?_⟩
          · have n1:¬ OC y:=fun h=>ho ((hiff y).2 (Or.inl h))
            have n2:y ≠ w.heap.size+1:=fun h=>ho ((hiff y).2 (Or.inr (Or.inl h)))
            have n3:¬ OA y:=fun h=>by
              rcases hfA.grow _ h with h | h
              · exact n1 h
              · omega
            exact (World.putObj_heap_other n2).trans ((hf.block y (by omega) n3).trans ((o2 y n2).trans (hfA.block y hy n1)))
          · rcases hy with hy | rfl | rfl
            · rcases hf.grow y hy with h | h
              · rcases hfA.grow y h with h | h
                · exact Or.inl ((hiff y).2 (Or.inl h))
                · exact Or.inr h
              · exact Or.inr (by omega)
            · exact Or.inl ((hiff _).2 (Or.inr (Or.inl rfl)))
            · exact Or.inl ((hiff _).2 (Or.inr (Or.inr rfl)))
        · rw [hrc]
          exact World.putObj_heap_same hlt3
      rintro e a3 W3 hp
      cases e with
      | normal =>
        obtain ⟨O',hf,hi3⟩:=hp
        obtain ⟨v,W4,q1,rfl,O4,q2,q3⟩:=fin none I W3 O' kI hf hi3
        exact ⟨_,W4,q1,O4,q2,Or.inl ⟨rfl,q3⟩⟩
      | ret =>
        obtain ⟨O',hf,hi3⟩:=hp
        obtain ⟨v,W4,q1,rfl,O4,q2,q3⟩:=fin (some .ret) Ix W3 O' kX hf hi3
        exact ⟨_,W4,q1,O4,q2,Or.inr ⟨rfl,q3⟩⟩
      | exit id=>exact hp.elim
      | goto t=>exact hp.elim
      | panic ch=>exact hp.elim
      | outgrown=>exact hp.elim
    · rintro e W2 ⟨⟨v,rfl⟩,OI',OJ',hR',hd',hf,hJ⟩
      have fin:∀ (s:List α) (r:Loop) (I':List α→(Nat→Prop)→World→Prop),OwnS I'→RoundJ I' (w.heap.size+1) w.heap.size r s OJ' W2→r.state ≠ .busy→∃ W3 O',(Instr.endLoop (w.heap.size+1)).run P W2=.ok r.pending W3∧R' OI' W3∧I' s O' W3∧(∀ x,OI' x→¬ O' x)∧Fp (fun x=>OI x∨O x) (fun x=>OI' x∨O' x) w W3∧W3.heap[w.heap.size]?=some (.deferred (some []))∧¬ OI' w.heap.size∧¬ O' w.heap.size:=by
        rintro s r I' kI' ⟨O',hi,hl,hk,nl,nD,_,hiff⟩ hst
        have nl':¬ OI' (w.heap.size+1):=fun h=>hd' _ h ((hiff _).2 (Or.inr (Or.inl rfl)))
        have nD':¬ OI' w.heap.size:=fun h=>hd' _ h ((hiff _).2 (Or.inr (Or.inr rfl)))
        have f1:=hf.size
        refine ⟨_,O',run_endLoop (P:=P) hl hst,kR'.keep () _ _ _ hR' (fun y hy=>World.putObj_heap_other (fun e=>nl' (e ▸ hy))) (by simp),kI'.keep _ _ _ _ hi (fun y hy=>World.putObj_heap_other (fun e=>nl (e ▸ hy))) (by simp),fun y h1 h2=>hd' y h1 ((hiff y).2 (Or.inl h2)),?_,(World.putObj_heap_other (by omega)).trans hk,nD',nD⟩
        refine ⟨hf.os.trans b1.os,hf.tape.trans b1.tape,hf.output.trans b1.output,by simp;omega,fun y hy ho=>?_,fun y hy=>?_⟩
        · refine (World.putObj_heap_other (by omega)).trans ((hf.block y (by omega) ?_).trans (kept y hy))
          rintro (h | h | h | h)
          · exact ho (Or.inl h)
          · exact ho (Or.inr h)
          · omega
          · omega
        · have:OI' y∨OJ' y:=hy.imp id (fun h=>(hiff y).2 (Or.inl h))
          rcases hf.grow y this with (h | h | h | h) | h
          · exact Or.inl (Or.inl h)
          · exact Or.inl (Or.inr h)
          · exact Or.inr (by omega)
          · exact Or.inr (by omega)
          · exact Or.inr (by omega)
      rcases hJ with hJ | ⟨pre,hJ⟩
      · obtain ⟨W3,O',q1,q2,q3,q4,q5,q6,q7,q8⟩:=fin xs _ I kI hJ (by rw [hrc];simp)
        refine ⟨none,W3,by rw [q1,hrc],hdone _ OI' O' W3 q2 q3 q4 q5 q6 (Nat.le_refl _) q7 q8⟩
      · obtain ⟨W3,O',q1,q2,q3,q4,q5,q6,q7,q8⟩:=fin pre _ Ix kX hJ (by rw [hrc];simp)
        refine ⟨some .ret,W3,by rw [q1,hrc],hstop _ pre OI' O' W3 q2 q3 q4 q5 q6 (Nat.le_refl _) q7 q8⟩
end Go.Proofs.YtljcljipppjnoaaGreatDoor
