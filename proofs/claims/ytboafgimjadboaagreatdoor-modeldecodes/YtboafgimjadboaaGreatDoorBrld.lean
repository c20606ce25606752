/- append of a slice to be read onto a row of the call's own, as one step of a region that draws: nil or not. A region that leaves its order open, whose last operation may break the condition under which the loads were taken: plain facts, of no program. The document's Load, walked. -/
import Derived.Test.YtboafgimjadboaaGreatDoorBdoc
import Derived.Test.YtboafgimjadboaaGreatDoorBlay
import Derived.Test.YtboafgimjadboaaGreatDoorBload
import Derived.Test.YtboafgimjadboaaGreatDoorRegion
namespace Go.Proofs.YtboafgimjadboaaGreatDoor
open Go.RowKit
set_option linter.unusedVariables false

theorem step_app {ops : Array Oper} {o : Oper} {a : Act} {w : World} {K : Act → World → Prop} {Q : Exit → Act → World → Prop} {E : Prop}
    (hg : o.guard = none) (s x : Operand) (hop : o.op = Op.call { callee := Callee.builtin Builtin.append, args := #[s, x], argTypes := #[55, 55] })
    (base : Nat) (hb : base ≤ w.heap.size) (v : Value) (n : Nat) (xs : List Value) (hs : a.eval s = v) (hown : w.ownsRow base 3 1 v n xs) (y : Value) (l : List Nat) (hx : a.eval x = y) (hy : NL w y l) (hn : n + l.length ≤ 100000)
    (hK : ∀ v' w', w'.ownsRow base 3 1 v' (n + l.length) (xs ++ ncs l) → w.grownBy w' v.ownBlock → K (a.put o.dst v') w') :
    if Region.wanted o (yielded ops a.tmps) = true then Oper.wp Tryz.prog o a w K Q else E := by
  obtain ⟨j0, hjf, hy0, hy1, hy2⟩ := info_parts infoInt
  obtain ⟨ad, m, cap, rfl, hlen, ⟨hmc, hnil, hty⟩, hcap, hcell⟩ := hy
  cases ad with
  | none =>
    obtain rfl : cap = 0 := hnil rfl
    obtain rfl : m = 0 := by omega
    obtain rfl : l = [] := List.eq_nil_of_length_eq_zero hlen
    refine step_append_none hg s x 55 hop base 3 j0 1 Tryz.underlying55 hjf v n xs hs hown hx ?_
    exact hK v w (by simpa [ncs] using hown) ⟨rfl, rfl, rfl, Nat.le_refl _, fun _ _ _ => rfl⟩
  | some aa =>
    obtain ⟨g, of, rfl, _⟩ := hty _ rfl
    refine step_append_own hg s x 55 hop base 3 j0 _ 1 8 Tryz.underlying55 hjf hy0 hy1 hy2 rfl (by decide) v n xs hs hown ⟨g, of, none⟩ m cap (ncs l) hx (by rw [ncs_length]; omega) (fun j u hu => ?_) (ncs_one _) (by unfold maxLen; omega) (by omega) hb ?_
    · rw [add_zero]
      unfold ncs at hu
      rw [List.getElem?_map, Option.map_eq_some_iff] at hu
      obtain ⟨z, hz, rfl⟩ := hu
      obtain ⟨b', o', e', c'⟩ := hcell j z hz
      cases e'
      exact c'
    · intro v1 x1 ho hgr
      rw [← hlen] at ho
      exact hK v1 x1 ho hgr

/-- A slice of one number, new. -/
theorem nl_lit (w : World) (d : Nat) : NL (w.alloc (.cells #[.int .i64 (d : Int)] 3)) (.slice (some ⟨w.heap.size, 0, none⟩) 1 1) [d] := by
  have hn := heap_alloc_new w (.cells #[.int .i64 (d : Int)] 3)
  refine ⟨_, 1, 1, rfl, rfl, ⟨Nat.le_refl _, fun e => absurd e (by simp), fun a e => ?_⟩, by unfold maxLen; omega, fun j x hx => ?_⟩
  · cases e
    exact ⟨_, _, rfl, _, _, hn⟩
  · cases j with
    | zero =>
      simp at hx
      subst hx
      refine ⟨_, _, rfl, ?_⟩
      unfold World.cell?
      rw [hn]
      rfl
    | succ j => simp at hx

theorem nr_cell {w : World} {b o u : Nat} {cap V : Nat} {R : Nat → List Nat} (h : NR w (.slice (some ⟨b, o, none⟩) V cap) V R) : Ty w b 55 := by
  obtain ⟨ad, c, e, _, ⟨_, h3⟩, _⟩ := h
  cases e
  obtain ⟨b', o', e', ht⟩ := h3 _ rfl
  cases e'
  exact ht

end Go.Proofs.YtboafgimjadboaaGreatDoor

namespace Go.Proofs.YtboafgimjadboaaGreatDoor
open Go.RowKit
set_option linter.unusedVariables false

/-- Whatever comes up, the condition holds behind it, unless it is number k. -/
def wpAnyK (P : Program) (md : Region.Mode) (ops : Array Oper) (Q : Exit → Act → World → Prop) (S : World → Prop) (k : Nat) : Nat → Array Bool → Act → World → Prop
  | 0, li, a, w => Region.ready md ops li = [] ∧ Q .normal a w
  | f + 1, li, a, w => (Region.ready md ops li = [] → Q .normal a w) ∧ ∀ i, i ∈ Region.ready md ops li → wpOp P ops Q i (fun b x => (i = k ∨ S x) ∧ wpAnyK P md ops Q S k f (li.setIfInBounds i true) b x) a w

/-- What is listed has all listed that it waits for. -/
def clB (md : Region.Mode) (ops : Array Oper) (li : Array Bool) : Bool := (List.range ops.size).all fun j => !(li.getD j false) || ((ops[j]?).map (fun o => o.after.all fun e => !(Region.binds md e) || li.getD e.on false)).getD true

/-- m waits for i, by steps. -/
def wtB (md : Region.Mode) (ops : Array Oper) : Nat → Nat → Nat → Bool
  | 0, _, _ => false
  | n + 1, m, i => ((ops[m]?).map (fun o => o.after.any fun e => Region.binds md e && (e.on == i || wtB md ops n e.on i))).getD false

section
variable {P : Program} {md : Region.Mode} {ops : Array Oper} {Q : Exit → Act → World → Prop} {S : World → Prop} {k : Nat}

/-- The same, said in words. -/
def Cl (md : Region.Mode) (ops : Array Oper) (li : Array Bool) : Prop := ∀ j o, li.getD j false = true → ops[j]? = some o → ∀ e, e ∈ o.after → Region.binds md e = true → li.getD e.on false = true

theorem cl_of {li : Array Bool} (h : clB md ops li = true) : Cl md ops li := fun j o hj ho e he hb => by
  unfold clB at h
  rw [List.all_eq_true] at h
  have hlt : j < ops.size := (Array.getElem?_eq_some_iff.1 ho).1
  have h1 := h j (List.mem_range.2 hlt)
  rw [hj, ho] at h1
  simp only [Bool.not_true, Bool.false_or, Option.map_some, Option.getD_some] at h1
  obtain ⟨t, ht, rfl⟩ := Array.mem_iff_getElem.1 he
  have h2 := Array.all_eq_true.1 h1 t ht
  rw [hb] at h2
  simpa using h2

theorem Cl.step {li : Array Bool} (h : Cl md ops li) {j : Nat} (hj : j ∈ Region.ready md ops li) : Cl md ops (li.setIfInBounds j true) := fun i o hi ho e he hb => by
  refine getD_set_true ?_
  by_cases q : j = i
  · subst q
    obtain ⟨_, o', ho', hall⟩ := mem_ready.1 hj
    rw [ho] at ho'
    cases ho'
    exact hall e he hb
  · rw [getD_set_ne false q] at hi
    exact h i o hi ho e he hb

theorem wt_list {li : Array Bool} (h : Cl md ops li) {i : Nat} : ∀ n m o, ops[m]? = some o → (∀ e, e ∈ o.after → Region.binds md e = true → li.getD e.on false = true) → wtB md ops n m i = true → li.getD i false = true
  | 0, m, o, _, _, hw => by simp [wtB] at hw
  | n + 1, m, o, ho, hall, hw => by
    unfold wtB at hw
    rw [ho] at hw
    simp only [Option.map_some, Option.getD_some] at hw
    obtain ⟨t, ht, h1⟩ := Array.any_eq_true.1 hw
    simp only [Bool.and_eq_true, Bool.or_eq_true, beq_iff_eq] at h1
    obtain ⟨hb, h2⟩ := h1
    have hl := hall _ (Array.getElem_mem ht) hb
    rcases h2 with rfl | h2
    · exact hl
    · cases hq : ops[(o.after[t]).on]? with
      | none =>
        cases n with
        | zero => simp [wtB] at h2
        | succ n => unfold wtB at h2; rw [hq] at h2; simp at h2
      | some o2 => exact wt_list h n _ o2 hq (fun e he hb => h _ o2 hl hq e he hb) h2

theorem any_of_K : ∀ (f : Nat) (li : Array Bool) (a : Act) (w : World), wpAnyK P md ops Q S k f li a w → wpAny P md ops Q f li a w
  | 0, _, _, _, h => h
  | f + 1, li, a, w, h => ⟨h.1, fun i hi => wpOp_mono (fun b x hx => any_of_K f _ b x hx.2) (h.2 i hi)⟩

theorem takeK_go {i n : Nat} {oi : Oper} {v : Value} (hi : ops[i]? = some oi) (hsel : ∀ (j : Nat) (o : Oper) cs b, ops[j]? = some o → o.op ≠ .select cs b) (hQ : ∀ c a w, Q (.panic c) (a.put oi.dst v) w → Q (.panic c) a w) (hwt : wtB md ops n k i = true) :
    ∀ (f : Nat) (li : Array Bool) (a : Act) (w : World), (∀ j oj, ops[j]? = some oj → j ≠ i → li.getD j true = false → (∀ e ∈ oj.after, Region.binds md e = true → e.on ≠ i) → oi.apart ops oj = true) →
      Cl md ops li → i ∈ Region.ready md ops li → YieldsIf P ops S oi v a → S w → wpAnyK P md ops Q S k f (li.setIfInBounds i true) (a.put oi.dst v) w → wpAnyK P md ops Q S k (f + 1) li a w
  | f, li, a, w, hfree, hcl, hr, hy, hS, H => by
    have hun : li.getD i true = false := (mem_ready.1 hr).1
    have hun' : li.getD i false = false := by
      rcases Nat.lt_or_ge i li.size with h' | h'
      · simp [h'] at hun ⊢
        exact hun
      · simp [Array.getElem?_eq_none h']
    refine ⟨fun h0 => absurd hr (by rw [h0]; simp), fun j hj => ?_⟩
    by_cases hji : j = i
    · subst hji
      exact hy.wpOp hi hS ⟨.inr hS, H⟩
    have hj' := ready_mono hj hji
    obtain ⟨hjun, oj, hoj, hall⟩ := mem_ready.1 hj
    have hjk : j ≠ k := fun e => by
      subst e
      have := wt_list hcl n j oj hoj hall hwt
      rw [hun'] at this
      cases this
    have hno : ∀ e ∈ oj.after, Region.binds md e = true → e.on ≠ i := fun e he hb hq => by
      have := hall e he hb
      rw [hq, hun'] at this
      cases this
    cases f with
    | zero =>
      rw [H.1] at hj'
      cases hj'
    | succ f =>
      have h2 := wpOp_putIf hoj (hfree j oj hoj hji hjun hno) (fun cs b => hsel i oi cs b hi) (fun cs b => hsel j oj cs b hoj) hQ hy (H.2 j hj')
      refine wpOp_mono (fun b x hx => ?_) h2
      obtain ⟨hy2, hS2, H2⟩ := hx
      have hS3 := hS2.resolve_left hjk
      rw [Array.setIfInBounds_comm _ _ (Ne.symm hji)] at H2
      refine ⟨.inr hS3, takeK_go hi hsel hQ hwt f (li.setIfInBounds j true) b x (fun m om hm hmi hmun hmno => ?_) (hcl.step hj) (ready_mono hr (Ne.symm hji)) hy2 hS3 H2⟩
      refine hfree m om hm hmi ?_ hmno
      by_cases q : j = m
      · subst q; exact hjun
      · rw [getD_set_ne true q] at hmun; exact hmun

/-- One operation that yields in every world of the condition is taken first. -/
theorem takeK {i : Nat} {v : Value} {f : Nat} {li : Array Bool} {a a' : Act} {w : World} (oi : Oper) (hi : ops[i]? = some oi) (hcl : clB md ops li = true) (hwt : wtB md ops ops.size k i = true)
    (hs : Region.noSelect ops = true) (hf : Region.free md ops li i = true) (hr : (Region.ready md ops li).contains i = true)
    (hQ : ∀ c a w, Q (.panic c) (a.put oi.dst v) w → Q (.panic c) a w) (hw : Region.wanted oi (yielded ops a.tmps) = true) (hy : ∀ w, S w → (execOp a.eval oi).run P w = .ok (.value v) w) (hS : S w) (ha : a.put oi.dst v = a')
    (h : wpAnyK P md ops Q S k f (li.setIfInBounds i true) a' w) : wpAnyK P md ops Q S k (f + 1) li a w := by
  subst ha
  exact takeK_go hi (Region.noSelect_spec hs) hQ hwt f li a w (Region.free_spec hi hf) (cl_of hcl) (by simpa using hr) (.inl ⟨hw, hy⟩) hS h

theorem readyK {rs : List Nat} {f : Nat} {li : Array Bool} {a : Act} {w : World} (hr : Region.ready md ops li = rs) (hne : rs ≠ [])
    (h : ∀ i, i ∈ rs → wpOp P ops Q i (fun b x => (i = k ∨ S x) ∧ wpAnyK P md ops Q S k f (li.setIfInBounds i true) b x) a w) : wpAnyK P md ops Q S k (f + 1) li a w :=
  ⟨fun h0 => absurd (hr ▸ h0) hne, hr ▸ h⟩

theorem doneK {li : Array Bool} {a : Act} {w : World} (hr : Region.ready md ops li = []) (h : Q .normal a w) : ∀ f, wpAnyK P md ops Q S k f li a w
  | 0 => ⟨hr, h⟩
  | _ + 1 => ⟨fun _ => h, by rw [hr]; simp⟩

theorem beginK {id : Nat} {a : Act} {w : World} (hm : P.follows .mixedOrders = true) (hS : S w.drew) (h : S w.drew → wpAnyK P .any ops Q S k ops.size (Array.replicate ops.size false) a w.drew) : (Code.region id ops true).wp P Q a w :=
  wp_region_any hm (any_of_K _ _ _ _ (h hS))

/-- One that comes up, the way on kept shut. -/
theorem oneK {f : Nat} {li : Array Bool} {a : Act} {w : World} {i : Nat} {o : Oper} (ho : ops[i]? = some o)
    (h : ∀ K : Act → World → Prop, Shut (∀ b x, (i = k ∨ S x) → (wpAnyK P md ops Q S k f (li.setIfInBounds i true) b x) → K b x) → if Region.wanted o (yielded ops a.tmps) = true then Oper.wp P o a w K Q else K (a.put o.dst undef) w) :
    wpOp P ops Q i (fun b x => (i = k ∨ S x) ∧ wpAnyK P md ops Q S k f (li.setIfInBounds i true) b x) a w :=
  wpOp_step ho (fun K hK => h K (fun b x h1 h2 => hK b x ⟨h1, h2⟩))
end

end Go.Proofs.YtboafgimjadboaaGreatDoor

namespace Go.Proofs.YtboafgimjadboaaGreatDoor
open Go.RowKit
set_option linter.unusedVariables false

/-- Where the document's Load stands: its own two blocks, what is loaded. -/
def DL (W : World) (g : Nat) (V E : Nat) (R : Nat → List Nat) (y : World) : Prop := ∃ lv, y.heap[g]? = some (.cells #[.int .i64 (E : Int), lv] 76 (0, 0)) ∧ NR y lv V R ∧ Tn V E R ∧ y.heap[W.heap.size]? = some (.cells #[.int .i64 0, .slice none 0 0] 76 (0, 0)) ∧ Below W.heap.size W y

theorem Tn.nil (V E : Nat) : Tn V E (fun _ => []) := ⟨fun _ _ => List.nodup_nil, fun _ _ _ _ _ h => by simp at h, fun _ _ _ h => by simp at h⟩

set_option maxRecDepth 100000 in
set_option maxHeartbeats 4000000 in
theorem rload_any {V E : Nat} {u : Value} {ls : List (List Int)} {W : World} (h1 : 1 ≤ V) (h2 : V ≤ 1000) (h4 : E ≤ 400) (hu : RV W u ls) :
    Calls Tryz.prog 32 #[.int .i64 (V : Int), .int .i64 (E : Int), u] W fun x w' => Below W.heap.size W w' ∧ ((Good V E ls ∧ ∃ tv, x = .returned (.tuple #[tv, .bool true]) ∧ RT w' tv E V (RR ls ls.length 0)) ∨ (¬ Good V E ls ∧ x = .returned (.tuple #[.agg #[.int .i64 0, .slice none 0 0], .bool false]))) := by
  obtain ⟨ad, n, cap, rfl, hs⟩ := hu
  have hlen := hs.len
  have hbig := hs.big
  replace hs := hid hs
  have hn := hid (fun y => rnew_ok E V y h4 h2)
  have hg6 := hid (heap_alloc_new W (.cells #[.int .i64 0, .slice none 0 0] 76))
  have hb6 := hid (balloc W (.cells #[.int .i64 0, .slice none 0 0] 76))
  obtain ⟨w0, hw0⟩ : ∃ w0, W.alloc (.cells #[.int .i64 0, .slice none 0 0] 76) = w0 := ⟨_, rfl⟩
  rw [hw0] at hg6 hb6
  by_cases hl : n ≤ V
  · have t1 : decide ((n : Int) > (V : Int)) = false := decide_eq_false (by omega)
    have t1' : decide ((V : Int) < (n : Int)) = false := decide_eq_false (by omega)
    have t1'' : decide (V < n) = false := decide_eq_false (by omega)
    go_enter Tryz.func32, Tryz.ntmps32
    go_upto_region 3 with fail
    try rw [hw0]
    clear hw0 t1 t1' t1''
    go_wp2_with fail
    refine (hn.out _).mono ?_
    rintro x w1 ⟨tv, rfl, ⟨lv, rfl, hr⟩, b1⟩
    have hg61 := (b1.block _ (Array.getElem?_eq_some_iff.1 hg6.out).1).trans hg6.out
    have hg8 := heap_alloc_new w1 (.cells #[.int .i64 (E : Int), lv] 76)
    have hb8 := balloc w1 (.cells #[.int .i64 (E : Int), lv] 76)
    have hd : Hid (DL W w1.heap.size V E (RR ls 0 0) (w1.alloc (.cells #[.int .i64 (E : Int), lv] 76))) := ⟨lv, hg8, by rw [RR_zero]; exact hr.below hb8, by rw [RR_zero]; exact Tn.nil V E, (hb8.block _ (Array.getElem?_eq_some_iff.1 hg61).1).trans hg61, (hb6.out.trans (b1.mono hb6.out.size)).trans (hb8.mono (Nat.le_trans hb6.out.size b1.size))⟩
    have hlt : W.heap.size < w1.heap.size := (Array.getElem?_eq_some_iff.1 hg61).1
    have hr' := hr
    obtain ⟨ad0, cp0, rfl, _⟩ := hr'
    clear hg61 hg8 hb8 hr b1 hg6 hb6 hn
    go_wp2_with fail
    generalize w1.alloc (.cells #[.int .i64 (E : Int), .slice ad0 V cp0] 76) = w2 at hd ⊢
    generalize w1.heap.size = g8 at hd hlt ⊢
    go_loopw [9, 10, 11, 12, 13, 14] (fun s9 _ _ _ _ _ wr => ∃ v : Nat, v ≤ n ∧ s9 = .int .i64 (v : Int) ∧ Hid (DL W g8 V E (RR ls v 0) wr ∧ ∀ j l k d, j < v → ls[j]? = some l → l[k]? = some d → okD V E (RR ls j k) d)) (fun s9 _ _ _ _ _ _ => n - (intOf s9).toNat)
    case atStart => exact ⟨0, by omega, by go_num, hd.out, fun j l k d hj => by omega⟩
    case round =>
      obtain ⟨v, hv, rfl, hst0⟩ := hrel
      clear hd
      by_cases hc : v < n
      · have t1 : decide ((v : Int) < (n : Int)) = true := decide_eq_true (by omega)
        obtain ⟨lz, hz⟩ : ∃ l, ls[v]? = some l := ⟨_, List.getElem?_eq_getElem (by omega)⟩
        obtain ⟨ab, ao, rw, rfl, cz, hiv⟩ := hs.out.cell v lz hz
        obtain ⟨ia, im, ic, rfl, hsl⟩ := hiv
        have hil := hsl.len
        have hib := hsl.big
        have hcz : Hid (∀ y, Below W.heap.size W y → y.cell? ⟨ab, ao + v, none⟩ = some (.slice ia im ic)) := fun y hy => (hy.cell (World.block_lt_of_cell? W _ cz)).trans cz
        replace hz := hid hz
        replace hsl := hid hsl
        have hdl := hid hst0.out.1
        have hold := hid hst0.out.2
        clear cz hst0
        go_wp2_with fail
        go_loopw [10, 11, 12, 13, 14] (fun s10 _ _ _ _ wr => ∃ k : Nat, k ≤ im ∧ s10 = .int .i64 (k : Int) ∧ Hid (DL W g8 V E (RR ls v k) wr ∧ ∀ j d, j < k → lz[j]? = some d → okD V E (RR ls v j) d)) (fun s10 _ _ _ _ _ => im - (intOf s10).toNat)
        case atStart => exact ⟨0, by omega, by go_num, hdl.out, fun j d hj => by omega⟩
        case round =>
          obtain ⟨k, hk, rfl, hst⟩ := hrel
          clear hdl
          have czr := hcz.out _ hst.out.1.choose_spec.2.2.2.2
          by_cases hc2 : k < im
          · have t2 : decide ((k : Int) < (im : Int)) = true := decide_eq_true (by omega)
            obtain ⟨z, hzz⟩ : ∃ z, lz[k]? = some z := ⟨_, List.getElem?_eq_getElem (by omega)⟩
            obtain ⟨lv, q8, qn, qt, q6, qb⟩ := hst.out.1
            obtain ⟨ib, io, rfl, ci⟩ := (hsl.out.below qb).cell k z hzz
            replace hzz := hid hzz
            have hrt := hid (show RT _ (.agg #[.int .i64 (E : Int), lv]) E V (RR ls v k) from ⟨lv, rfl, qn⟩)
            have hfi := hid (rfind_ok _ E V _ z _ hrt.out h2 (fun u hu => by have := qt.len hu; omega))
            obtain ⟨b1, o1, cp, us, rfl, hc1, hc3, hul, hus⟩ := qn.vals (by omega)
            obtain ⟨m0, m1, _, _⟩ := blk2 q8
            replace q8 := hid q8
            replace qn := hid qn
            replace qt := hid qt
            replace q6 := hid q6
            replace qb := hid qb
            replace hus := hid hus
            go_wp2_with fail
            clear m0 m1 czr
            refine hfi.out.mono ?_
            rintro x wf ⟨r, s, rfl, hat, b3⟩
            replace hat := hid hat
            have hBW := hid (qb.out.trans (b3.mono qb.out.size))
            have h6f := hid ((b3.block _ (Array.getElem?_eq_some_iff.1 q6.out).1).trans q6.out)
            have h8f := hid ((b3.block _ (Array.getElem?_eq_some_iff.1 q8.out).1).trans q8.out)
            have hnrf := hid (qn.out.below b3)
            obtain ⟨sv, hsv⟩ : ∃ sv, us[v]? = some sv := ⟨_, List.getElem?_eq_getElem (by omega)⟩
            obtain ⟨cxf, hxf⟩ := hus.out v sv hsv
            replace cxf := hid ((b3.cell (World.block_lt_of_cell? _ _ cxf)).trans cxf)
            replace hxf := hid (hxf.below b3)
            clear b3 hrt hfi hsv hus ci
            by_cases z0 : z < 0
            · have d1 : decide (z < 0) = true := decide_eq_true z0
              replace z0 := hid z0
              have s6 := h6f.out
              obtain ⟨f1, f2, f3, f4⟩ := blk2 s6
              have hfin := hid (set2_block s6 (.int .i64 0) (.slice none 0 0))
              have hbl := hid (below2 hBW.out (Nat.le_refl _) (.int .i64 0) (.slice none 0 0))
              have hng : Hid (¬ Good V E ls) := fun hq => absurd (hq.2.1 v lz k z hz.out hzz.out).1 (by have := z0.out; omega)
              clear s6
              go_wp2_with fail
              refine bodyPost_ret (results_cell2 rfl _ _ W.heap.size 76 _ (0, 0) _ rfl hfin.out Tryz.underlying76 rfl (by kernel_rfl)) rfl ?_
              exact ⟨hbl.out, .inr ⟨hng.out, rfl⟩⟩
            · have d1 : decide (z < 0) = false := decide_eq_false z0
              by_cases z1 : 2 * (E : Int) ≤ z
              · have d2 : decide (z ≥ 2 * (E : Int)) = true := decide_eq_true z1
                have d2' : decide (2 * (E : Int) ≤ z) = true := decide_eq_true z1
                replace z1 := hid z1
                replace z0 := hid z0
                have s6 := h6f.out
                obtain ⟨f1, f2, f3, f4⟩ := blk2 s6
                have hfin := hid (set2_block s6 (.int .i64 0) (.slice none 0 0))
                have hbl := hid (below2 hBW.out (Nat.le_refl _) (.int .i64 0) (.slice none 0 0))
                have hng : Hid (¬ Good V E ls) := fun hq => absurd (hq.2.1 v lz k z hz.out hzz.out).2.1 (by have := z1.out; omega)
                clear s6
                go_wp2_with fail
                refine bodyPost_ret (results_cell2 rfl _ _ W.heap.size 76 _ (0, 0) _ rfl hfin.out Tryz.underlying76 rfl (by kernel_rfl)) rfl ?_
                exact ⟨hbl.out, .inr ⟨hng.out, rfl⟩⟩
              · have d2 : decide (z ≥ 2 * (E : Int)) = false := decide_eq_false z1
                have d2' : decide (2 * (E : Int) ≤ z) = false := decide_eq_false z1
                obtain ⟨d, rfl⟩ : ∃ d : Nat, z = (d : Int) := ⟨z.toNat, by omega⟩
                rcases hat.out.in with ⟨hr0, hin⟩ | ⟨rfl, hin⟩
                · have d3 : decide (r ≥ 0) = true := decide_eq_true hr0
                  have d3' : decide (0 ≤ r) = true := decide_eq_true hr0
                  replace hin := hid hin
                  clear hr0
                  have s6 := h6f.out
                  obtain ⟨f1, f2, f3, f4⟩ := blk2 s6
                  have hfin := hid (set2_block s6 (.int .i64 0) (.slice none 0 0))
                  have hbl := hid (below2 hBW.out (Nat.le_refl _) (.int .i64 0) (.slice none 0 0))
                  have hng : Hid (¬ Good V E ls) := fun hq => (hq.2.1 v lz k _ hz.out hzz.out).2.2 (by simpa using hin.out)
                  clear s6
                  go_wp2_with fail
                  refine bodyPost_ret (results_cell2 rfl _ _ W.heap.size 76 _ (0, 0) _ rfl hfin.out Tryz.underlying76 rfl (by kernel_rfl)) rfl ?_
                  exact ⟨hbl.out, .inr ⟨hng.out, rfl⟩⟩
                · have hok : Hid (okD V E (RR ls v k) (d : Int)) := ⟨by omega, by omega, by simpa using hin⟩
                  have hd2 : d < 2 * E := by omega
                  obtain ⟨l, hL⟩ : ∃ l, RR ls v k v = l := ⟨_, rfl⟩
                  have hll : l.length ≤ 800 := by have := qt.out.len (v := v) (by omega); rw [hL] at this; omega
                  have htn : Hid (Tn V E (RR ls v (k + 1))) := by
                    rw [RR_step hz.out hzz.out]
                    exact qt.out.append (by omega) (by simpa using hin) (by simpa using hd2)
                  have hrs : Hid (RR ls v (k + 1) = upd (RR ls v k) v (l ++ [d])) := by
                    have := RR_step hz.out hzz.out
                    rw [hL] at this
                    exact hid (by simpa using this)
                  rw [hL] at hxf
                  obtain ⟨ad2, n2, cap2, rfl, hx2⟩ := hxf.out
                  have hx := hid (show NL wf (.slice ad2 n2 cap2) l from ⟨ad2, n2, cap2, rfl, hx2⟩)
                  have hne : g8 ≠ b1 := fun e => by
                    have q1 := nr_cell (u := 0) hnrf.out
                    have q2 : Ty wf g8 76 := ⟨_, _, h8f.out⟩
                    rw [e] at q2
                    exact absurd (q1.uniq q2) (by decide)
                  have hB : Hid (Below wf.heap.size wf wf.drew) := (Below.refl _ _).drew
                  have hg8 : Hid (∀ y, Below wf.heap.size wf y → y.heap[g8]? = some (.cells #[.int .i64 (E : Int), .slice (some ⟨b1, o1, none⟩) V cp] 76 (0, 0))) := fun y hy => (hy.block _ (Array.getElem?_eq_some_iff.1 h8f.out).1).trans h8f.out
                  have hcx : Hid (∀ y, Below wf.heap.size wf y → y.cell? ⟨b1, o1 + v, none⟩ = some (.slice ad2 n2 cap2)) := fun y hy => (hy.cell (World.block_lt_of_cell? _ _ cxf.out)).trans cxf.out
                  have hSS : Hid (∀ y, Below wf.heap.size wf y → y.cell? ⟨g8, 0, none⟩ = some (.int .i64 (E : Int)) ∧ y.cell? ⟨g8, 1, none⟩ = some (.slice (some ⟨b1, o1, none⟩) V cp) ∧ y.cell? ⟨b1, o1 + v, none⟩ = some (.slice ad2 n2 cap2)) := fun y hy => ⟨(blk2 (hg8.out y hy)).1, (blk2 (hg8.out y hy)).2.1, hcx.out y hy⟩
                  have hsto : Hid (∀ (y : World) (p q : Value), y.cell? ⟨b1, o1 + v, none⟩ = some (.slice ad2 n2 cap2) → ((y.setCell ⟨g8, 0, none⟩ p).setCell ⟨g8, 1, none⟩ q).cell? ⟨b1, o1 + v, none⟩ = some (.slice ad2 n2 cap2)) := fun y p q hy => by
                    rw [World.cell?_setCell_far _ _ _ _ hne, World.cell?_setCell_far _ _ _ _ hne]
                    exact hy
                  have hrt0 : Hid (∀ y, Below wf.heap.size wf y → RT y (.agg #[.int .i64 (E : Int), .slice (some ⟨b1, o1, none⟩) V cp]) E V (RR ls v k)) := fun y hy => ⟨_, rfl, hnrf.out.below hy⟩
                  have hwi := hid (fun tv lv (l : List Nat) y (hy : RT y tv E V (RR ls v k)) (hq : NL y lv l) => rwith_ok tv lv E V v (RR ls v k) l y hy hq (by omega) h2)
                  have hnx : Hid (∀ (y : World) (ad3 : Option Addr) (cp3 : Nat), Below wf.heap.size wf y → NR y (.slice ad3 V cp3) V (upd (RR ls v k) v (l ++ [d])) → DL W g8 V E (RR ls v (k + 1)) ((y.setCell ⟨g8, 0, none⟩ (.int .i64 (E : Int))).setCell ⟨g8, 1, none⟩ (.slice ad3 V cp3))) := fun y ad3 cp3 hy hr => by
                    have s8 := hg8.out y hy
                    have s6 := (hy.block _ (Array.getElem?_eq_some_iff.1 h6f.out).1).trans h6f.out
                    refine ⟨_, set2_block s8 _ _, ?_, htn.out, ?_, below2 (hBW.out.trans (hy.mono hBW.out.size)) (Nat.le_of_lt hlt) _ _⟩
                    · rw [hrs.out]
                      exact hr.al (set2_al s8 _ _)
                    · rw [Below.heap_setCell _ _ _ _ (by show W.heap.size ≠ g8; omega), Below.heap_setCell _ _ _ _ (by show W.heap.size ≠ g8; omega)]
                      exact s6
                  have i1 : (0 : Int) ≤ (v : Int) := by omega
                  have i2 : (v : Int) < (V : Int) := by omega
                  replace hL := hid hL
                  clear hx2 hxf cxf hnrf h8f h6f q8 qn q6 qb hat hin htn hrs hBW hne
                  go_wp2_with fail
                  refine wp_region_noPanic ?_
                  refine beginK (k := 13) (S := fun y => y.cell? ⟨g8, 0, none⟩ = some (.int .i64 (E : Int)) ∧ y.cell? ⟨g8, 1, none⟩ = some (.slice (some ⟨b1, o1, none⟩) V cp) ∧ y.cell? ⟨b1, o1 + v, none⟩ = some (.slice ad2 n2 cap2)) (by kernel_rfl) (hSS.out _ hB.out) (fun _ => ?_)
                  generalize wf.drew = x0 at hB ⊢
                  refine takeK (i := 0) (v := ?_) (a' := ?_) ({ dst := some 69, op := Op.load 76 (Operand.tmp 8), type := 76, pos := "ref.go:157", after := #[], guard := none }) rfl (by kernel_rfl) (by kernel_rfl) (by kernel_rfl) (by kernel_rfl) (by kernel_rfl) (fun _ _ _ h => h) (by rfl) ?_ (hSS.out _ hB.out) ?_ ?_
                  rotate_left 2
                  · (intro w' hSw; obtain ⟨q0, q1, q2⟩ := hSw; go_simp; try with_reducible rfl)
                  · (simp only [Act.put, List.setIfInBounds_toArray, List.set_cons_zero, List.set_cons_succ]; try rfl)
                  refine takeK (i := 1) (v := ?_) (a' := ?_) ({ dst := some 70, op := Op.move (Operand.tmp 9), type := 3, pos := "ref.go:157", after := #[], guard := none }) rfl (by kernel_rfl) (by kernel_rfl) (by kernel_rfl) (by kernel_rfl) (by kernel_rfl) (fun _ _ _ h => h) (by rfl) ?_ (hSS.out _ hB.out) ?_ ?_
                  rotate_left 2
                  · (intro w' hSw; obtain ⟨q0, q1, q2⟩ := hSw; go_simp; try with_reducible rfl)
                  · (simp only [Act.put, List.setIfInBounds_toArray, List.set_cons_zero, List.set_cons_succ]; try rfl)
                  refine takeK (i := 2) (v := ?_) (a' := ?_) ({ dst := some 71, op := Op.move (Operand.tmp 14), type := 55, pos := "ref.go:157", after := #[], guard := none }) rfl (by kernel_rfl) (by kernel_rfl) (by kernel_rfl) (by kernel_rfl) (by kernel_rfl) (fun _ _ _ h => h) (by rfl) ?_ (hSS.out _ hB.out) ?_ ?_
                  rotate_left 2
                  · (intro w' hSw; obtain ⟨q0, q1, q2⟩ := hSw; go_simp; try with_reducible rfl)
                  · (simp only [Act.put, List.setIfInBounds_toArray, List.set_cons_zero, List.set_cons_succ]; try rfl)
                  refine takeK (i := 3) (v := ?_) (a' := ?_) ({ dst := some 72, op := Op.fieldAddr 76 (Operand.tmp 8) 1, type := 0, pos := "ref.go:157", after := #[], guard := none }) rfl (by kernel_rfl) (by kernel_rfl) (by kernel_rfl) (by kernel_rfl) (by kernel_rfl) (fun _ _ _ h => h) (by rfl) ?_ (hSS.out _ hB.out) ?_ ?_
                  rotate_left 2
                  · (intro w' hSw; obtain ⟨q0, q1, q2⟩ := hSw; go_simp; try with_reducible rfl)
                  · (simp only [Act.put, List.setIfInBounds_toArray, List.set_cons_zero, List.set_cons_succ]; try rfl)
                  refine takeK (i := 4) (v := ?_) (a' := ?_) ({ dst := some 73, op := Op.load 28 (Operand.tmp 72), type := 28, pos := "ref.go:157", after := #[{ on := 3, ground := Ground.data }], guard := none }) rfl (by kernel_rfl) (by kernel_rfl) (by kernel_rfl) (by kernel_rfl) (by kernel_rfl) (fun _ _ _ h => h) (by rfl) ?_ (hSS.out _ hB.out) ?_ ?_
                  rotate_left 2
                  · (intro w' hSw; obtain ⟨q0, q1, q2⟩ := hSw; go_simp; try with_reducible rfl)
                  · (simp only [Act.put, List.setIfInBounds_toArray, List.set_cons_zero, List.set_cons_succ]; try rfl)
                  refine takeK (i := 5) (v := ?_) (a' := ?_) ({ dst := some 74, op := Op.move (Operand.tmp 9), type := 3, pos := "ref.go:157", after := #[], guard := none }) rfl (by kernel_rfl) (by kernel_rfl) (by kernel_rfl) (by kernel_rfl) (by kernel_rfl) (fun _ _ _ h => h) (by rfl) ?_ (hSS.out _ hB.out) ?_ ?_
                  rotate_left 2
                  · (intro w' hSw; obtain ⟨q0, q1, q2⟩ := hSw; go_simp; try with_reducible rfl)
                  · (simp only [Act.put, List.setIfInBounds_toArray, List.set_cons_zero, List.set_cons_succ]; try rfl)
                  refine takeK (i := 6) (v := ?_) (a' := ?_) ({ dst := some 75, op := Op.indexAddr 28 (Operand.tmp 73) (Operand.tmp 74), type := 0, pos := "ref.go:157", after := #[{ on := 4, ground := Ground.data }, { on := 5, ground := Ground.data }], guard := none }) rfl (by kernel_rfl) (by kernel_rfl) (by kernel_rfl) (by kernel_rfl) (by kernel_rfl) (fun _ _ _ h => h) (by rfl) ?_ (hSS.out _ hB.out) ?_ ?_
                  rotate_left 2
                  · (intro w' hSw; obtain ⟨q0, q1, q2⟩ := hSw; go_simp; try with_reducible rfl)
                  · (simp only [Act.put, List.setIfInBounds_toArray, List.set_cons_zero, List.set_cons_succ]; try rfl)
                  refine takeK (i := 7) (v := ?_) (a' := ?_) ({ dst := some 76, op := Op.load 55 (Operand.tmp 75), type := 55, pos := "ref.go:157", after := #[{ on := 6, ground := Ground.data }], guard := none }) rfl (by kernel_rfl) (by kernel_rfl) (by kernel_rfl) (by kernel_rfl) (by kernel_rfl) (fun _ _ _ h => h) (by rfl) ?_ (hSS.out _ hB.out) ?_ ?_
                  rotate_left 2
                  · (intro w' hSw; obtain ⟨q0, q1, q2⟩ := hSw; go_simp; try with_reducible rfl)
                  · (simp only [Act.put, List.setIfInBounds_toArray, List.set_cons_zero, List.set_cons_succ]; try rfl)
                  refine takeK (i := 9) (v := ?_) (a' := ?_) ({ dst := some 78, op := Op.move (Operand.tmp 11), type := 3, pos := "ref.go:157", after := #[], guard := none }) rfl (by kernel_rfl) (by kernel_rfl) (by kernel_rfl) (by kernel_rfl) (by kernel_rfl) (fun _ _ _ h => h) (by rfl) ?_ (hSS.out _ hB.out) ?_ ?_
                  rotate_left 2
                  · (intro w' hSw; obtain ⟨q0, q1, q2⟩ := hSw; go_simp; try with_reducible rfl)
                  · (simp only [Act.put, List.setIfInBounds_toArray, List.set_cons_zero, List.set_cons_succ]; try rfl)
                  refine readyK (rs := [8, 10]) (by kernel_rfl) (by simp) (fun i hi => ?_)
                  simp only [List.mem_cons, List.not_mem_nil, or_false] at hi
                  rcases hi with rfl | rfl
                  · skip
                    refine oneK (o := { dst := some 77, op := Op.call { callee := Callee.builtin Builtin.append, args := #[Operand.tmp 71, Operand.tmp 76], argTypes := #[55, 55] }, type := 55, pos := "ref.go:157", after := #[{ on := 2, ground := Ground.data }, { on := 7, ground := Ground.data }], guard := none }) rfl (fun K hK => ?_)
                    refine step_app rfl (.tmp 71) (.tmp 76) rfl wf.heap.size hB.out.size (.slice none 0 0) 0 [] (by rfl) (World.ownsRow_nil _ _ _ _) (.slice ad2 n2 cap2) l (by rfl) (hx.out.below hB.out) (by omega) ?_
                    intro v1 x1 hOwn hgrow
                    have hBx : Below (World.heap (x0)).size (x0) x1 := (Below.refl _ _).grown hgrow (Nat.le_refl _) (fun k hk => by cases hk)
                    replace hOwn := hid hOwn
                    replace hB := hid (hB.out.trans (hBx.mono hB.out.size))
                    clear hgrow hBx
                    refine hK.out _ _ (.inr (hSS.out _ hB.out)) ?_
                    clear hK K
                    try simp only [Act.put, List.setIfInBounds_toArray, List.set_cons_zero, List.set_cons_succ]
                    refine readyK (rs := [10]) (by kernel_rfl) (by simp) (fun i hi => ?_)
                    simp only [List.mem_cons, List.not_mem_nil, or_false] at hi
                    subst hi
                    refine oneK (o := { dst := some 79, op := Op.buildSlice 55 1 #[(0, Operand.tmp 78)], type := 55, pos := "ref.go:157", after := #[{ on := 9, ground := Ground.data }], guard := none }) rfl (fun K hK => ?_)
                    go_simp
                    refine hK.out _ _ (.inr (hSS.out _ (hB.out.alloc hB.out.size (.cells #[.int .i64 (d : Int)] 3)))) ?_
                    clear hK K
                    try simp only [Act.put, List.setIfInBounds_toArray, List.set_cons_zero, List.set_cons_succ]
                    have hLit := hid (nl_lit (x1) d)
                    replace hOwn := hid (hOwn.out.alloc (.cells #[.int .i64 (d : Int)] 3))
                    replace hB := hid (hB.out.alloc hB.out.size (.cells #[.int .i64 (d : Int)] 3))
                    generalize (x1).alloc (.cells #[.int .i64 (d : Int)] 3) = xl at hLit hB hOwn ⊢
                    refine readyK (rs := [11]) (by kernel_rfl) (by simp) (fun i hi => ?_)
                    simp only [List.mem_cons, List.not_mem_nil, or_false] at hi
                    subst hi
                    refine oneK (o := { dst := some 80, op := Op.call { callee := Callee.builtin Builtin.append, args := #[Operand.tmp 77, Operand.tmp 79], argTypes := #[55, 55] }, type := 55, pos := "ref.go:157", after := #[{ on := 8, ground := Ground.data }, { on := 10, ground := Ground.data }, { on := 8, ground := Ground.chain }], guard := none }) rfl (fun K hK => ?_)
                    refine step_app rfl (.tmp 77) (.tmp 79) rfl wf.heap.size hB.out.size v1 _ _ (by rfl) hOwn.out _ [d] (by rfl) hLit.out (by simp; omega) ?_
                    intro v2 x2 hOwn2 hgrow2
                    have hB2 := hid (below_row hB.out (Nat.le_refl _) hOwn.out (Nat.le_refl _) hgrow2)
                    have hNl := hid (nl_of (l := l ++ [d]) (base := wf.heap.size) (w := x2) (v := v2) (by rw [ncs_append]; simpa using hOwn2))
                    clear hOwn2 hgrow2 hOwn hLit hB
                    refine hK.out _ _ (.inr (hSS.out _ hB2.out)) ?_
                    clear hK K
                    try simp only [Act.put, List.setIfInBounds_toArray, List.set_cons_zero, List.set_cons_succ]
                    have hrt := hid (hrt0.out _ hB2.out)
                    refine readyK (rs := [12]) (by kernel_rfl) (by simp) (fun i hi => ?_)
                    simp only [List.mem_cons, List.not_mem_nil, or_false] at hi
                    subst hi
                    refine oneK (o := { dst := some 81, op := Op.call { callee := Callee.value (Operand.func 62), args := #[Operand.tmp 69, Operand.tmp 70, Operand.tmp 80], argTypes := #[76, 3, 55] }, type := 76, pos := "ref.go:157", after := #[{ on := 0, ground := Ground.data }, { on := 1, ground := Ground.data }, { on := 11, ground := Ground.data }, { on := 11, ground := Ground.chain }], guard := none }) rfl (fun K hK => ?_)
                    obtain ⟨va, vn, vc, rfl, _⟩ := hNl.out
                    go_simp
                    refine (hwi.out _ _ _ x2 hrt.out hNl.out).mono ?_
                    rintro x3 w3 ⟨tv', rfl, ⟨lv3, rfl, hr3⟩, b3⟩
                    have hr3' := hr3
                    obtain ⟨ad3, cp3, rfl, _⟩ := hr3'
                    have hB3 := hid (hB2.out.trans (b3.mono hB2.out.size))
                    replace hr3 := hid hr3
                    clear b3 hB2 hNl hrt
                    go_wp2_with fail
                    refine hK.out _ _ (.inr (hSS.out _ hB3.out)) ?_
                    clear hK K
                    try simp only [Act.put, List.setIfInBounds_toArray, List.set_cons_zero, List.set_cons_succ]
                    refine readyK (rs := [13]) (by kernel_rfl) (by simp) (fun i hi => ?_)
                    simp only [List.mem_cons, List.not_mem_nil, or_false] at hi
                    subst hi
                    refine oneK (o := { dst := none, op := Op.store 76 (Operand.tmp 8) (Operand.tmp 81), type := 0, pos := "ref.go:157", after := #[{ on := 12, ground := Ground.data }, { on := 12, ground := Ground.chain }, { on := 0, ground := Ground.phase }, { on := 1, ground := Ground.phase }, { on := 2, ground := Ground.phase }, { on := 3, ground := Ground.phase }, { on := 4, ground := Ground.phase }, { on := 5, ground := Ground.phase }, { on := 6, ground := Ground.phase }, { on := 7, ground := Ground.phase }, { on := 8, ground := Ground.phase }, { on := 9, ground := Ground.phase }, { on := 10, ground := Ground.phase }, { on := 11, ground := Ground.phase }, { on := 12, ground := Ground.phase }], guard := none }) rfl (fun K hK => ?_)
                    have s8 := hg8.out _ hB3.out
                    obtain ⟨m0, m1, m2, m3⟩ := blk2 s8
                    have hnext := hid (hnx.out _ _ _ hB3.out hr3.out)
                    go_simp
                    refine hK.out _ _ (.inl rfl) ?_
                    clear hK K
                    try simp only [Act.put, List.setIfInBounds_toArray, List.set_cons_zero, List.set_cons_succ]
                    refine doneK (by kernel_rfl) ?_ _
                    refine NoPanic.normal ?_
                    clear m0 m1 m2 m3 s8 hr3 hB3
                    go_wp2_with fail
                    go_roundw
                    case rel =>
                      refine ⟨k + 1, by omega, by go_num, hnext.out, fun j d' hj hd' => ?_⟩
                      by_cases e : j = k
                      · subst e
                        obtain rfl : (d : Int) = d' := Option.some.inj (hzz.out.symm.trans hd')
                        exact hok.out
                      · exact hst.out.2 j d' (by omega) hd'
                    case measure => simp [intOf]; omega
                  · skip
                    refine oneK (o := { dst := some 79, op := Op.buildSlice 55 1 #[(0, Operand.tmp 78)], type := 55, pos := "ref.go:157", after := #[{ on := 9, ground := Ground.data }], guard := none }) rfl (fun K hK => ?_)
                    go_simp
                    refine hK.out _ _ (.inr (hSS.out _ (hB.out.alloc hB.out.size (.cells #[.int .i64 (d : Int)] 3)))) ?_
                    clear hK K
                    try simp only [Act.put, List.setIfInBounds_toArray, List.set_cons_zero, List.set_cons_succ]
                    have hLit := hid (nl_lit (x0) d)
                    replace hB := hid (hB.out.alloc hB.out.size (.cells #[.int .i64 (d : Int)] 3))
                    generalize (x0).alloc (.cells #[.int .i64 (d : Int)] 3) = xl at hLit hB ⊢
                    refine readyK (rs := [8]) (by kernel_rfl) (by simp) (fun i hi => ?_)
                    simp only [List.mem_cons, List.not_mem_nil, or_false] at hi
                    subst hi
                    refine oneK (o := { dst := some 77, op := Op.call { callee := Callee.builtin Builtin.append, args := #[Operand.tmp 71, Operand.tmp 76], argTypes := #[55, 55] }, type := 55, pos := "ref.go:157", after := #[{ on := 2, ground := Ground.data }, { on := 7, ground := Ground.data }], guard := none }) rfl (fun K hK => ?_)
                    refine step_app rfl (.tmp 71) (.tmp 76) rfl wf.heap.size hB.out.size (.slice none 0 0) 0 [] (by rfl) (World.ownsRow_nil _ _ _ _) (.slice ad2 n2 cap2) l (by rfl) (hx.out.below hB.out) (by omega) ?_
                    intro v1 x1 hOwn hgrow
                    have hBx : Below (World.heap (xl)).size (xl) x1 := (Below.refl _ _).grown hgrow (Nat.le_refl _) (fun k hk => by cases hk)
                    replace hOwn := hid hOwn
                    replace hLit := hid (hLit.out.below hBx)
                    replace hB := hid (hB.out.trans (hBx.mono hB.out.size))
                    clear hgrow hBx
                    refine hK.out _ _ (.inr (hSS.out _ hB.out)) ?_
                    clear hK K
                    try simp only [Act.put, List.setIfInBounds_toArray, List.set_cons_zero, List.set_cons_succ]
                    refine readyK (rs := [11]) (by kernel_rfl) (by simp) (fun i hi => ?_)
                    simp only [List.mem_cons, List.not_mem_nil, or_false] at hi
                    subst hi
                    refine oneK (o := { dst := some 80, op := Op.call { callee := Callee.builtin Builtin.append, args := #[Operand.tmp 77, Operand.tmp 79], argTypes := #[55, 55] }, type := 55, pos := "ref.go:157", after := #[{ on := 8, ground := Ground.data }, { on := 10, ground := Ground.data }, { on := 8, ground := Ground.chain }], guard := none }) rfl (fun K hK => ?_)
                    refine step_app rfl (.tmp 77) (.tmp 79) rfl wf.heap.size hB.out.size v1 _ _ (by rfl) hOwn.out _ [d] (by rfl) hLit.out (by simp; omega) ?_
                    intro v2 x2 hOwn2 hgrow2
                    have hB2 := hid (below_row hB.out (Nat.le_refl _) hOwn.out (Nat.le_refl _) hgrow2)
                    have hNl := hid (nl_of (l := l ++ [d]) (base := wf.heap.size) (w := x2) (v := v2) (by rw [ncs_append]; simpa using hOwn2))
                    clear hOwn2 hgrow2 hOwn hLit hB
                    refine hK.out _ _ (.inr (hSS.out _ hB2.out)) ?_
                    clear hK K
                    try simp only [Act.put, List.setIfInBounds_toArray, List.set_cons_zero, List.set_cons_succ]
                    have hrt := hid (hrt0.out _ hB2.out)
                    refine readyK (rs := [12]) (by kernel_rfl) (by simp) (fun i hi => ?_)
                    simp only [List.mem_cons, List.not_mem_nil, or_false] at hi
                    subst hi
                    refine oneK (o := { dst := some 81, op := Op.call { callee := Callee.value (Operand.func 62), args := #[Operand.tmp 69, Operand.tmp 70, Operand.tmp 80], argTypes := #[76, 3, 55] }, type := 76, pos := "ref.go:157", after := #[{ on := 0, ground := Ground.data }, { on := 1, ground := Ground.data }, { on := 11, ground := Ground.data }, { on := 11, ground := Ground.chain }], guard := none }) rfl (fun K hK => ?_)
                    obtain ⟨va, vn, vc, rfl, _⟩ := hNl.out
                    go_simp
                    refine (hwi.out _ _ _ x2 hrt.out hNl.out).mono ?_
                    rintro x3 w3 ⟨tv', rfl, ⟨lv3, rfl, hr3⟩, b3⟩
                    have hr3' := hr3
                    obtain ⟨ad3, cp3, rfl, _⟩ := hr3'
                    have hB3 := hid (hB2.out.trans (b3.mono hB2.out.size))
                    replace hr3 := hid hr3
                    clear b3 hB2 hNl hrt
                    go_wp2_with fail
                    refine hK.out _ _ (.inr (hSS.out _ hB3.out)) ?_
                    clear hK K
                    try simp only [Act.put, List.setIfInBounds_toArray, List.set_cons_zero, List.set_cons_succ]
                    refine readyK (rs := [13]) (by kernel_rfl) (by simp) (fun i hi => ?_)
                    simp only [List.mem_cons, List.not_mem_nil, or_false] at hi
                    subst hi
                    refine oneK (o := { dst := none, op := Op.store 76 (Operand.tmp 8) (Operand.tmp 81), type := 0, pos := "ref.go:157", after := #[{ on := 12, ground := Ground.data }, { on := 12, ground := Ground.chain }, { on := 0, ground := Ground.phase }, { on := 1, ground := Ground.phase }, { on := 2, ground := Ground.phase }, { on := 3, ground := Ground.phase }, { on := 4, ground := Ground.phase }, { on := 5, ground := Ground.phase }, { on := 6, ground := Ground.phase }, { on := 7, ground := Ground.phase }, { on := 8, ground := Ground.phase }, { on := 9, ground := Ground.phase }, { on := 10, ground := Ground.phase }, { on := 11, ground := Ground.phase }, { on := 12, ground := Ground.phase }], guard := none }) rfl (fun K hK => ?_)
                    have s8 := hg8.out _ hB3.out
                    obtain ⟨m0, m1, m2, m3⟩ := blk2 s8
                    have hnext := hid (hnx.out _ _ _ hB3.out hr3.out)
                    go_simp
                    refine hK.out _ _ (.inl rfl) ?_
                    clear hK K
                    try simp only [Act.put, List.setIfInBounds_toArray, List.set_cons_zero, List.set_cons_succ]
                    refine doneK (by kernel_rfl) ?_ _
                    refine NoPanic.normal ?_
                    clear m0 m1 m2 m3 s8 hr3 hB3
                    go_wp2_with fail
                    go_roundw
                    case rel =>
                      refine ⟨k + 1, by omega, by go_num, hnext.out, fun j d' hj hd' => ?_⟩
                      by_cases e : j = k
                      · subst e
                        obtain rfl : (d : Int) = d' := Option.some.inj (hzz.out.symm.trans hd')
                        exact hok.out
                      · exact hst.out.2 j d' (by omega) hd'
                    case measure => simp [intOf]; omega
          · obtain rfl : im = k := by omega
            have t2 : decide ((im : Int) < (im : Int)) = false := decide_eq_false (by omega)
            go_wp2_with fail
            go_roundw
            case rel =>
              refine ⟨v + 1, by omega, by go_num, ?_, fun j l' k d hj hl' hd => ?_⟩
              · have := hst.out.1
                rw [← hil, RR_next hz.out] at this
                exact this
              · by_cases q : j = v
                · subst q
                  obtain rfl : lz = l' := Option.some.inj (hz.out.symm.trans hl')
                  exact hst.out.2 k d (by have := (List.getElem?_eq_some_iff.1 hd).1; omega) hd
                · exact hold.out j l' k d (by omega) hl' hd
            case measure => simp [intOf]; omega
      · obtain rfl : n = v := by omega
        have t1 : decide ((n : Int) < (n : Int)) = false := decide_eq_false (by omega)
        obtain ⟨lv, q8, qn, qt, q6, qb⟩ := hst0.out.1
        have hokk : Hid (Ok V E ls) := fun j l k d hj hd => hst0.out.2 j l k d (by have := (List.getElem?_eq_some_iff.1 hj).1; omega) hj hd
        rw [← hlen] at qn qt
        have hlR : ∀ u, u < V → (RR ls ls.length 0 u).length ≤ 1000 := fun u hu => by have := qt.len hu; omega
        have hrt : Hid (∀ y, Below wr.heap.size wr y → RT y (.agg #[.int .i64 (E : Int), lv]) E V (RR ls ls.length 0)) := fun y hy => ⟨lv, rfl, qn.below hy⟩
        have hda := hid (rdarts_ok _ E V _ _ (hrt.out _ (Below.refl _ _)) (by omega) h2 hlR)
        have hfi := hid (fun z y (hy : Below wr.heap.size wr y) => rfind_ok _ E V _ z y (hrt.out y hy) h2 hlR)
        have qn' := qn
        obtain ⟨ad3, cp3, rfl, _⟩ := qn'
        obtain ⟨m0, m1, _, _⟩ := blk2 q8
        have hg8 : Hid (∀ y, Below wr.heap.size wr y → y.heap[g8]? = some (.cells #[.int .i64 (E : Int), .slice ad3 V cp3] 76 (0, 0))) := fun y hy => (hy.block _ (Array.getElem?_eq_some_iff.1 q8).1).trans q8
        have hg6 : Hid (∀ y, Below wr.heap.size wr y → y.heap[W.heap.size]? = some (.cells #[.int .i64 0, .slice none 0 0] 76 (0, 0))) := fun y hy => (hy.block _ (Array.getElem?_eq_some_iff.1 q6).1).trans q6
        replace qb := hid qb
        replace qt := hid qt
        clear hst0 qn q8 q6 hlR
        go_wp2_with fail
        refine hda.out.mono ?_
        rintro x w5 ⟨rv, rfl, hrv, b5⟩
        obtain ⟨ra, rn, rc, rfl, hrl, hrr⟩ := hrv
        have hrn : rn ≤ 800 := by have := laid_len V (RR ls ls.length 0) (2 * E); omega
        have hce : Hid (∀ y, Below w5.heap.size w5 y → ∀ (j x : Nat), (laid V (RR ls ls.length 0) (2 * E))[j]? = some x → ∃ b o, ra = some ⟨b, o, none⟩ ∧ y.cell? ⟨b, o + j, none⟩ = some (.int .i64 (x : Int))) := fun y hy j x hx => by
          obtain ⟨b, o, e1, e2⟩ := hrr.2.2 j x hx
          exact ⟨b, o, e1, (hy.cell (World.block_lt_of_cell? _ _ e2)).trans e2⟩
        replace hrl := hid hrl
        replace b5 := hid b5
        clear hrr hda m0 m1
        go_wp2_with fail
        go_loopw [16, 17, 18, 19] (fun s16 _ _ _ y => ∃ i : Nat, i ≤ rn ∧ s16 = .int .i64 (i : Int) ∧ Hid (Below w5.heap.size w5 y ∧ ∀ (j d e : Nat), j < i → (laid V (RR ls ls.length 0) (2 * E))[j]? = some d → (d = 2 * e → In V (RR ls ls.length 0) (2 * e + 1)) ∧ (d = 2 * e + 1 → In V (RR ls ls.length 0) (2 * e)))) (fun s16 _ _ _ _ => rn - (intOf s16).toNat)
        case atStart => exact ⟨0, by omega, by go_num, Below.refl _ _, fun j d e hj => by omega⟩
        case round =>
          obtain ⟨i, hi, rfl, hst⟩ := hrel
          have hBr := hid (b5.out.trans (hst.out.1.mono b5.out.size))
          by_cases hc3 : i < rn
          · have t2 : decide ((i : Int) < (rn : Int)) = true := decide_eq_true (by omega)
            obtain ⟨d, hd⟩ : ∃ d, (laid V (RR ls ls.length 0) (2 * E))[i]? = some d := ⟨_, List.getElem?_eq_getElem (by rw [hrl.out]; exact hc3)⟩
            obtain ⟨rb, ro, rfl, cd⟩ := hce.out _ hst.out.1 i d hd
            obtain ⟨hd2, hdi⟩ := mem_laid.1 (List.mem_of_getElem? hd)
            replace hd := hid hd
            replace hdi := hid hdi
            obtain ⟨m0, m1, _, _⟩ := blk2 (hg8.out _ hBr.out)
            rcases Nat.mod_two_eq_zero_or_one d with hm | hm
            · obtain ⟨e, rfl⟩ : ∃ e, d = 2 * e := ⟨d / 2, by omega⟩
              clear hm
              obtain ⟨d, hde⟩ : ∃ d, 2 * e = d := ⟨_, rfl⟩
              rw [hde] at cd hd hd2 hdi
              have tm : Int.tmod (d : Int) 2 = 0 := by rw [Int.tmod_eq_emod_of_nonneg (by omega)]; omega
              replace hde := hid hde
              have hf := hid (hfi.out ((d : Int) + 1) _ hBr.out)
              go_wp2_with fail
              refine hf.out.mono ?_
              rintro x w6 ⟨r, s, rfl, hat, b6⟩
              rw [show (d : Int) + 1 = ((2 * e + 1 : Nat) : Int) by have := hde.out; omega] at hat
              have hB6 := hid (hst.out.1.trans (b6.mono hst.out.1.size))
              have hBr6 := hid (hBr.out.trans (b6.mono hBr.out.size))
              replace hat := hid hat
              clear b6 cd m0 m1 hf tm
              rcases hat.out.in with ⟨hr0, hin⟩ | ⟨rfl, hin⟩
              · have d3 : decide (r < 0) = false := decide_eq_false (by omega)
                replace hin := hid hin
                clear hr0
                go_wp2_with fail
                go_roundw
                case rel =>
                  refine ⟨i + 1, by omega, by go_num, hB6.out, fun j d' e' hj hd' => ?_⟩
                  by_cases q : j = i
                  · subst q
                    obtain rfl : d = d' := Option.some.inj (hd.out.symm.trans hd')
                    have := hde.out
                    exact ⟨fun h => by obtain rfl : e = e' := by omega
                                       exact hin.out, fun h => by omega⟩
                  · exact hst.out.2 j d' e' (by omega) hd'
                case measure => simp [intOf]; omega
              · replace hin := hid hin
                have s6 := hg6.out _ hBr6.out
                obtain ⟨f1, f2, f3, f4⟩ := blk2 s6
                have hfin := hid (set2_block s6 (.int .i64 0) (.slice none 0 0))
                have hbl := hid (below2 (qb.out.trans (hBr6.out.mono qb.out.size)) (Nat.le_refl _) (.int .i64 0) (.slice none 0 0))
                have hng : Hid (¬ Good V E ls) := fun hq => hin.out ((hq.2.2 e (by have := hde.out; omega)).1 (by rw [hde.out]; exact hdi.out))
                clear s6
                go_wp2_with fail
                refine bodyPost_ret (results_cell2 rfl _ _ W.heap.size 76 _ (0, 0) _ rfl hfin.out Tryz.underlying76 rfl (by kernel_rfl)) rfl ?_
                exact ⟨hbl.out, .inr ⟨hng.out, rfl⟩⟩
            · obtain ⟨e, rfl⟩ : ∃ e, d = 2 * e + 1 := ⟨d / 2, by omega⟩
              clear hm
              obtain ⟨d, hde⟩ : ∃ d, 2 * e + 1 = d := ⟨_, rfl⟩
              rw [hde] at cd hd hd2 hdi
              have tm : Int.tmod (d : Int) 2 = 1 := by rw [Int.tmod_eq_emod_of_nonneg (by omega)]; omega
              have hd1 : 1 ≤ d := by omega
              replace hde := hid hde
              have hf := hid (hfi.out ((d : Int) - 1) _ hBr.out)
              go_wp2_with fail
              refine hf.out.mono ?_
              rintro x w6 ⟨r, s, rfl, hat, b6⟩
              rw [show (d : Int) - 1 = ((2 * e : Nat) : Int) by have := hde.out; omega] at hat
              have hB6 := hid (hst.out.1.trans (b6.mono hst.out.1.size))
              have hBr6 := hid (hBr.out.trans (b6.mono hBr.out.size))
              replace hat := hid hat
              clear b6 cd m0 m1 hf tm
              rcases hat.out.in with ⟨hr0, hin⟩ | ⟨rfl, hin⟩
              · have d3 : decide (r < 0) = false := decide_eq_false (by omega)
                replace hin := hid hin
                clear hr0
                go_wp2_with fail
                go_roundw
                case rel =>
                  refine ⟨i + 1, by omega, by go_num, hB6.out, fun j d' e' hj hd' => ?_⟩
                  by_cases q : j = i
                  · subst q
                    obtain rfl : d = d' := Option.some.inj (hd.out.symm.trans hd')
                    have := hde.out
                    exact ⟨fun h => by omega, fun h => by obtain rfl : e = e' := by omega
                                                          exact hin.out⟩
                  · exact hst.out.2 j d' e' (by omega) hd'
                case measure => simp [intOf]; omega
              · replace hin := hid hin
                have s6 := hg6.out _ hBr6.out
                obtain ⟨f1, f2, f3, f4⟩ := blk2 s6
                have hfin := hid (set2_block s6 (.int .i64 0) (.slice none 0 0))
                have hbl := hid (below2 (qb.out.trans (hBr6.out.mono qb.out.size)) (Nat.le_refl _) (.int .i64 0) (.slice none 0 0))
                have hng : Hid (¬ Good V E ls) := fun hq => hin.out ((hq.2.2 e (by have := hde.out; omega)).2 (by rw [hde.out]; exact hdi.out))
                clear s6
                go_wp2_with fail
                refine bodyPost_ret (results_cell2 rfl _ _ W.heap.size 76 _ (0, 0) _ rfl hfin.out Tryz.underlying76 rfl (by kernel_rfl)) rfl ?_
                exact ⟨hbl.out, .inr ⟨hng.out, rfl⟩⟩
          · obtain rfl : rn = i := by omega
            have t2 : decide ((rn : Int) < (rn : Int)) = false := decide_eq_false (by omega)
            have hgood : Hid (Good V E ls) := ⟨by omega, hokk.out, fun e he => by
              constructor
              · intro hin
                obtain ⟨j, hj⟩ := List.getElem?_of_mem (mem_laid.2 ⟨show 2 * e < 2 * E by omega, hin⟩)
                exact (hst.out.2 j _ e (by have := (List.getElem?_eq_some_iff.1 hj).1; rw [hrl.out] at this; omega) hj).1 rfl
              · intro hin
                obtain ⟨j, hj⟩ := List.getElem?_of_mem (mem_laid.2 ⟨show 2 * e + 1 < 2 * E by omega, hin⟩)
                exact (hst.out.2 j _ e (by have := (List.getElem?_eq_some_iff.1 hj).1; rw [hrl.out] at this; omega) hj).2 rfl⟩
            obtain ⟨m0, m1, _, _⟩ := blk2 (hg8.out _ hBr.out)
            have s6 := hg6.out _ hBr.out
            obtain ⟨f1, f2, f3, f4⟩ := blk2 s6
            have hfin := hid (set2_block s6 (.int .i64 (E : Int)) (.slice ad3 V cp3))
            have hbl := hid (below2 (qb.out.trans (hBr.out.mono qb.out.size)) (Nat.le_refl _) (.int .i64 (E : Int)) (.slice ad3 V cp3))
            obtain ⟨lvx, hlx, hnx⟩ := hrt.out _ hBr.out
            have hnr := hid (hnx.al (set2_al s6 (.int .i64 (E : Int)) (.slice ad3 V cp3)))
            injection hlx with hlx
            injection hlx with hlx
            injection hlx with _ hlx
            injection hlx with hlx _
            subst hlx
            clear s6 hnx
            go_wp2_with fail
            refine bodyPost_ret (results_cell2 rfl _ _ W.heap.size 76 _ (0, 0) _ rfl hfin.out Tryz.underlying76 rfl (by kernel_rfl)) rfl ?_
            exact ⟨hbl.out, .inl ⟨hgood.out, _, rfl, _, rfl, by first | exact hnr.out | (have := hnr.out; rw [hlen] at this; exact this)⟩⟩
  · have t1 : decide ((n : Int) > (V : Int)) = true := decide_eq_true (by omega)
    have t1' : decide ((V : Int) < (n : Int)) = true := decide_eq_true (by omega)
    have t1'' : decide (V < n) = true := decide_eq_true (by omega)
    have hll : ¬ ls.length ≤ V := by omega
    replace hll := hid hll
    clear hl
    go_enter Tryz.func32, Tryz.ntmps32
    go_upto_region 2 with fail
    try rw [hw0]
    clear hw0 t1 t1' t1''
    have s6 := hg6.out
    obtain ⟨f1, f2, f3, f4⟩ := blk2 s6
    have hfin := hid (set2_block s6 (.int .i64 0) (.slice none 0 0))
    have hbl := hid (below2 hb6.out (Nat.le_refl _) (.int .i64 0) (.slice none 0 0))
    have hng : Hid (¬ Good V E ls) := fun hq => hll.out hq.1
    clear s6
    go_wp2_with fail
    refine bodyPost_ret (results_cell2 rfl _ _ W.heap.size 76 _ (0, 0) _ rfl hfin.out Tryz.underlying76 rfl (by kernel_rfl)) rfl ?_
    exact ⟨hbl.out, .inr ⟨hng.out, rfl⟩⟩

end Go.Proofs.YtboafgimjadboaaGreatDoor
