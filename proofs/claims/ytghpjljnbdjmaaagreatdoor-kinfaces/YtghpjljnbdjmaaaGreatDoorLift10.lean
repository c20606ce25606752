/- The document's Lift, walked. -/
import Derived.Test.YtghpjljnbdjmaaaGreatDoorDarts10
import Derived.Test.YtghpjljnbdjmaaaGreatDoorRegion
namespace Go.Proofs.YtghpjljnbdjmaaaGreatDoor
open Go.RowKit
set_option linter.unusedVariables false

/-- append onto a row of the call's own, as one step of a region that draws. -/
theorem step_append_own {P : Program} {ops : Array Oper} {o : Oper} {a : Act} {w : World} {K : Act → World → Prop} {Q : Exit → Act → World → Prop} {E : Prop}
    (hg : o.guard = none) (s x : Operand) (t : TypeId) (hop : o.op = Op.call { callee := Callee.builtin Builtin.append, args := #[s, x], argTypes := #[t, t] })
    (base : Nat) (e : TypeId) (i : TypeInfo) (z : Value) (size bytes : Nat) (h1 : P.underlying t = some (.slice e)) (h2 : P.info? e = some i) (h3 : i.zero = some z) (h4 : i.size = size) (h5 : i.bytes = bytes) (h6 : z.cells.size = size) (h7 : 0 < size)
    (v : Value) (n : Nat) (xs : List Value) (hs : a.eval s = v) (hown : w.ownsRow base e size v n xs)
    (ad : Addr) (m c : Nat) (news : List Value) (hx : a.eval x = .slice (some ad) m c) (hn : news.length = m * size) (hc : ∀ j u, news[j]? = some u → w.cell? (ad.add j) = some u) (h1c : ∀ u ∈ news, u.oneCell' = true)
    (b1 : n + m ≤ maxLen) (b2 : (n + m) * bytes ≤ 140737488355328) (hb : base ≤ w.heap.size)
    (hK : ∀ v' w', w'.ownsRow base e size v' (n + m) (xs ++ news) → w.grownBy w' v.ownBlock → K (a.put o.dst v') w') :
    if Region.wanted o (yielded ops a.tmps) = true then Oper.wp P o a w K Q else E := by
  have hw : Region.wanted o (yielded ops a.tmps) = true := by simp [Region.wanted, hg]
  rw [if_pos hw]
  obtain ⟨v', w', hrun, r1, r2, _⟩ := run_append_own (P := P) w base t o.type e i z size bytes h1 h2 h3 h4 h5 h6 h7 v n xs hown ad m c news hn hc h1c b1 b2 hb
  unfold Oper.wp
  simp [execOp, hop, resolve, invoke, builtin, hs, hx, hrun, Result.andThen]
  exact hK v' w' r1 r2

theorem ncs_one (l : List Nat) : ∀ u ∈ ncs l, u.oneCell' = true := by
  intro u hu
  obtain ⟨x, _, rfl⟩ := List.mem_map.1 hu
  rfl

theorem wrap_succ (i : Nat) (h : i ≤ 1000) : IntKind.i64.wrap ((i : Int) + 1) = (i : Int) + 1 := by rw [IntKind.wrap_i64]; omega

/-- What lay there before two appends stays. -/
theorem stay {w x1 x2 : World} {n : Nat} {t : TypeId} {size : Nat} {v : Value} {xs : List Value} (ho : x1.ownsRow w.heap.size t size v n xs) (h1 : w.drew.grownBy x1 (Value.ownBlock (.slice none 0 0))) (h2 : x1.grownBy x2 v.ownBlock) {a : Addr} {y : Value} (hc : w.cell? a = some y) : x2.cell? a = some y := by
  have hlt := World.block_lt_of_cell? _ _ hc
  refine h2.cell (h1.cell (show w.drew.cell? _ = _ from hc) (by simp [Value.ownBlock])) (fun e => ?_)
  have := (ho.lt _ e.symm).1
  omega

theorem NR.congr {w : World} {v : Value} {V : Nat} {R R' : Nat → List Nat} (h : NR w v V R) (he : ∀ u, u < V → R u = R' u) : NR w v V R' := by
  obtain ⟨ad, cap, h1, h2, h3, h4⟩ := h
  refine ⟨ad, cap, h1, h2, h3, fun u hu => ?_⟩
  rw [← he u hu]
  exact h4 u hu

theorem erase_at {l : List Nat} {d i : Nat} (hn : l.Nodup) (hi : l[i]? = some d) : l.take i ++ l.drop (i + 1) = l.erase d := by
  obtain ⟨hlt, e⟩ := List.getElem?_eq_some_iff.1 hi
  have hs : l = l.take i ++ d :: l.drop (i + 1) := by
    rw [← e, List.getElem_cons_drop, List.take_append_drop]
  have hd : d ∉ l.take i := fun h => by
    rw [hs] at hn
    exact (List.nodup_append.1 hn).2.2 d h d (by simp) rfl
  have h2 := del_split (B := l.drop (i + 1)) hd
  rw [← hs] at h2
  exact h2.symm

/-- Another list round the vertex where the dart stood: it is out. -/
theorem upd_out {V E : Nat} {R : Nat → List Nat} (h : Tn V E R) {v d : Nat} (hv : v < V) (hd : d ∈ R v) : ∀ u, u < V → upd R v ((R v).erase d) u = outR R d u := fun u hu => by
  by_cases e : u = v
  · subst e; rw [upd_same]; rfl
  · rw [upd_ne e]
    exact (List.erase_of_not_mem (fun hm => e (h.one u v d hu hv hm hd))).symm

/-- What stands after so many rounds. -/
def lf2 (R : Nat → List Nat) (e : Nat) : Nat → (Nat → List Nat)
  | 0 => R
  | 1 => outR R (2 * e)
  | _ => liftR R e

theorem lf2_tn {V E : Nat} {R : Nat → List Nat} {e : Nat} (h : Tn V E R) : ∀ k, Tn V E (lf2 R e k)
  | 0 => h
  | 1 => h.out _
  | _ + 2 => (h.out _).out _

theorem lf2_in {V E : Nat} {R : Nat → List Nat} {e : Nat} (h : Tn V E R) (h0 : In V R (2 * e)) (h1 : In V R (2 * e + 1)) : ∀ k, k < 2 → In V (lf2 R e k) (2 * e + k)
  | 0, _ => h0
  | 1, _ => (In.out h).2 ⟨h1, by omega⟩
  | _ + 2, hk => by omega

theorem lf2_next {R : Nat → List Nat} {e : Nat} : ∀ k, k < 2 → outR (lf2 R e k) (2 * e + k) = lf2 R e (k + 1)
  | 0, _ => rfl
  | 1, _ => rfl
  | _ + 2, hk => by omega

theorem lf2_len {R : Nat → List Nat} {e : Nat} (k u : Nat) (h : (R u).length ≤ 1000) : (lf2 R e k u).length ≤ 1000 := by
  match k with
  | 0 => exact h
  | 1 => exact Nat.le_trans (List.length_erase_le) h
  | _ + 2 => exact Nat.le_trans (List.length_erase_le) (Nat.le_trans (List.length_erase_le) h)

theorem cell_set2 {w : World} {g : Nat} {a : Addr} (h : a.block ≠ g) (x y : Value) : ((w.setCell ⟨g, 0, none⟩ x).setCell ⟨g, 1, none⟩ y).cell? a = w.cell? a := by
  unfold World.cell?
  rw [Below.heap_setCell _ _ _ _ h, Below.heap_setCell _ _ _ _ h]

/-- A store into a variable of the document's turns turns no row. -/
theorem set2_al {w : World} {g : Nat} {u v : Value} (h : w.heap[g]? = some (.cells #[u, v] 27 (0, 0))) (a b : Value) : Al w ((w.setCell ⟨g, 0, none⟩ a).setCell ⟨g, 1, none⟩ b) := fun k hk => by
  have hne : k ≠ g := fun e => by
    subst e
    rcases hk with ⟨cs, fr, hk⟩ | ⟨cs, fr, hk⟩
    · rw [h] at hk
      injection hk with hk
      injection hk with _ hk
      cases hk
    · rw [h] at hk
      injection hk with hk
      injection hk with _ hk
      cases hk
  rw [Below.heap_setCell _ _ _ _ hne, Below.heap_setCell _ _ _ _ hne]

/-- Where the loop stands. -/
def LS (w : World) (E V : Nat) (R : Nat → List Nat) (wr : World) : Prop := ∃ lv, wr.heap[w.heap.size]? = some (.cells #[.int .i64 (E : Int), lv] 27 (0, 0)) ∧ wr.heap[w.heap.size + 1]? = some (.cells #[.int .i64 0, .slice none 0 0] 27 (0, 0)) ∧ NR wr lv V R ∧ Below w.heap.size w wr

theorem results_cell2 {P : Program} {fn : Func} {p u : Tmp} {ty : TypeId} (h : fn.results = #[.cell p ty, .tmp u]) (tmps : Array Value) (w : World) (g : Nat) (t : TypeId) (cs : Array Value) (fr : Nat × Nat) (d : TypeDesc)
    (hp : tmps.getD p undef = .pointer (some ⟨g, 0, none⟩)) (hg : w.heap[g]? = some (.cells cs t fr))
    (hu : P.underlying ty = some d) (hd : (match d with | .struct _ | .array _ _ => true | _ => false) = true) (hi : (P.info? ty).map (·.size) = some cs.size) :
    (results fn tmps).run P w = .ok (.tuple #[.agg cs, tmps.getD u undef]) w := by
  rw [results_cell_tmp h, hp]
  simp [asAddr, run_loadVar_row w g t ty cs fr d hg hu hd hi]

set_option maxRecDepth 100000 in
set_option maxHeartbeats 4000000 in
theorem rlift_ok (tv : Value) (E V e : Nat) (R : Nat → List Nat) (w : World) (hv : RT w tv E V R) (ht : Tn V E R) (he : e < E) (h0 : In V R (2 * e)) (h1 : In V R (2 * e + 1)) (hE : E ≤ 1000) (hV : V ≤ 1000) (hl : ∀ u, u < V → (R u).length ≤ 1000) :
    Calls Tryz.prog 52 #[tv, .int .i64 (e : Int)] w fun x w' => ∃ tv', x = .returned (.tuple #[tv', .int .i64 0]) ∧ RT w' tv' E V (liftR R e) ∧ Below w.heap.size w w' := by
  obtain ⟨j0, hjf, hy0, hy1, hy2⟩ := info_parts infoInt
  have hf := hid (fun (k : Nat) v y (hy : RT y v E V (lf2 R e k)) => rfind_ok v E V (lf2 R e k) (2 * (e : Int) + (k : Int)) y hy hV (fun u hu => lf2_len k u (hl u hu)))
  have hwi := hid (fun (k u : Nat) v lv (l : List Nat) y (hy : RT y v E V (lf2 R e k)) (hq : NL y lv l) (hu : u < V) => rwith_ok v lv E V u (lf2 R e k) l y hy hq hu hV)
  obtain ⟨lv, rfl, hr⟩ := hv
  obtain ⟨c0, c1⟩ := two_new w (.int .i64 (E : Int)) lv 27
  have hbA := balloc w (.cells #[.int .i64 (E : Int), lv] 27)
  obtain ⟨w1, hw1⟩ : ∃ w1, (w.alloc (.cells #[.int .i64 (E : Int), lv] 27)).alloc (.cells #[.int .i64 0, .slice none 0 0] 27) = w1 := ⟨_, rfl⟩
  have hst0 : Hid (LS w E V (lf2 R e 0) w1) := by
    have hB : Below w.heap.size w w1 := by rw [← hw1]; exact hbA.trans ((balloc _ _).mono (by simp))
    refine hid ⟨lv, ?_, ?_, hr.below hB, hB⟩
    · rw [← hw1]
      have h1 := heap_alloc_new w (.cells #[.int .i64 (E : Int), lv] 27)
      exact ((balloc (w.alloc (.cells #[.int .i64 (E : Int), lv] 27)) (.cells #[.int .i64 0, .slice none 0 0] 27)).block _ (by simp)).trans h1
    · rw [← hw1]
      have h1 := heap_alloc_new (w.alloc (.cells #[.int .i64 (E : Int), lv] 27)) (.cells #[.int .i64 0, .slice none 0 0] 27)
      simpa only [World.size_alloc] using h1
  have d1 : decide ((e : Int) < 0) = false := decide_eq_false (by omega)
  have d2 : decide ((E : Int) ≤ (e : Int)) = false := decide_eq_false (by omega)
  have d2' : decide (E ≤ e) = false := decide_eq_false (by omega)
  have c0' : w1.cell? ⟨w.heap.size, 0, none⟩ = some (.int .i64 (E : Int)) := by
    obtain ⟨lv', q1, _⟩ := hst0.out
    exact (blk2 q1).1
  clear hr c0 c1 hbA
  go_enter Tryz.func52, Tryz.ntmps52
  go_wp2_with fail
  try rw [hw1]
  go_wp2_with fail
  clear hw1 c0'
  go_loopw [6, 7, 8, 9] (fun s6 _ _ _ wr => ∃ k : Nat, k ≤ 2 ∧ s6 = .int .i64 (k : Int) ∧ Hid (LS w E V (lf2 R e k) wr))
    (fun s6 _ _ _ _ => 2 - (intOf s6).toNat)
  case atStart => exact ⟨0, by omega, by go_num, hst0⟩
  case round =>
    obtain ⟨k, hk, rfl, hst⟩ := hrel
    clear hst0
    rcases Nat.lt_or_ge k 2 with hlt | hge
    · have t1 : decide ((k : Int) < 2) = true := decide_eq_true (by omega)
      have t1' : decide (k < 2) = true := decide_eq_true (by omega)
      obtain ⟨lv2, p1, p2, p3, p4⟩ := hst.out
      obtain ⟨c0, c1, _, _⟩ := blk2 p1
      obtain ⟨u, hu, hdu⟩ := lf2_in ht h0 h1 k hlt
      have p3' := hid p3
      obtain ⟨ad, cap, rfl, hcap, hcap2, hro⟩ := p3
      obtain ⟨b1, o1, x, rfl, cx, hx⟩ := hro u hu
      obtain ⟨ad2, n2, cap2, rfl, hn2, hc2, hc3, hcell⟩ := hx
      have hlu := lf2_len (e := e) k u (hl u hu)
      rw [hn2] at hlu
      have hrt : Hid (RT wr (.agg #[.int .i64 (E : Int), .slice (some ⟨b1, o1, none⟩) V cap]) E V (lf2 R e k)) := hid ⟨_, rfl, _, cap, rfl, hcap, hcap2, hro⟩
      replace hn2 := hid hn2
      replace hcell := hid hcell
      have k0 := hid c0
      have k1 := hid c1
      have kx := hid cx
      have kp1 := hid p1
      have kp2 := hid p2
      have kb := hid p4
      have kdu := hid hdu
      clear hro hst p1 p2 p4 cx hdu
      go_wp2_with fail
      refine (hf.out k _ wr hrt.out).mono ?_
      rintro x2 w2 ⟨r, s, rfl, hat, b2⟩
      rw [show 2 * (e : Int) + (k : Int) = ((2 * e + k : Nat) : Int) from by omega] at hat
      obtain ⟨rfl, i, rfl, hi⟩ := At.found (lf2_tn ht k) hu kdu.out hat
      have hilt : i < n2 := by have := (List.getElem?_eq_some_iff.1 hi).1; rw [hn2.out] at this; exact this
      obtain ⟨g, o, rfl, cy⟩ := hcell.out i _ hi
      obtain ⟨l, hL⟩ : ∃ l, l = lf2 R e k u := ⟨_, rfl⟩
      have up : ∀ {a : Addr} {x : Value}, wr.cell? a = some x → w2.cell? a = some x := fun hc => (b2.cell (World.block_lt_of_cell? _ _ hc)).trans hc
      have e0 := up k0.out
      have e1 := up k1.out
      have ex := up kx.out
      have hcs : Hid (∀ (j x : Nat), l[j]? = some x → w2.cell? ⟨g, o + j, none⟩ = some (.int .i64 (x : Int))) := fun j x hx => by
        rw [hL] at hx
        obtain ⟨b', o', e', c'⟩ := hcell.out j x hx
        cases e'
        exact up c'
      have hln : l.length = n2 := by rw [hL]; exact hn2.out
      have hlT : (ncs (l.take i)).length = i * 1 := by rw [ncs_length, List.length_take, hln]; omega
      have hlD : (ncs (l.drop (i + 1))).length = (n2 - (i + 1)) * 1 := by rw [ncs_length, List.length_drop, hln]; omega
      have hcT : ∀ j u, (ncs (l.take i))[j]? = some u → w2.drew.cell? ((⟨g, o, none⟩ : Addr).add j) = some u := fun j u hu => by
        rw [add_zero]
        unfold ncs at hu
        rw [List.getElem?_map, Option.map_eq_some_iff] at hu
        obtain ⟨x, hx, rfl⟩ := hu
        rw [List.getElem?_take] at hx
        split at hx
        · exact hcs.out j x hx
        · cases hx
      obtain ⟨ad8, had8, hcD⟩ : ∃ ad8 : Addr, (if cap2 = i + 1 then (⟨g, o, none⟩ : Addr) else ⟨g, o + (i + 1), none⟩) = ad8 ∧ Hid (∀ (u1 : World), w2.drew.grownBy u1 none → ∀ j u, (ncs (l.drop (i + 1)))[j]? = some u → u1.cell? (ad8.add j) = some u) := by
        refine ⟨_, rfl, hid (fun u1 hg1 j u hu => ?_)⟩
        by_cases hcp : cap2 = i + 1
        · have hj := (List.getElem?_eq_some_iff.1 hu).1
          rw [hlD] at hj
          omega
        · rw [if_neg hcp, add_zero]
          unfold ncs at hu
          rw [List.getElem?_map, Option.map_eq_some_iff] at hu
          obtain ⟨x, hx, rfl⟩ := hu
          rw [List.getElem?_drop] at hx
          have := hcs.out _ x hx
          rw [← Nat.add_assoc] at this
          exact hg1.cell (show w2.drew.cell? _ = _ from this) (by simp)
      have hler : Hid (l.take i ++ l.drop (i + 1) = (lf2 R e k u).erase (2 * e + k)) := by rw [hL]; exact erase_at ((lf2_tn ht k).nd u hu) hi
      have zw := wrap_succ i (by omega)
      have z6 : (0 : Int) ≤ (i : Int) + 1 := by omega
      have z1 : (i : Int) ≤ (cap2 : Int) := by omega
      have z3 : (i : Int) + 1 ≤ (cap2 : Int) := by omega
      have z4 : (n2 : Int) ≤ (cap2 : Int) := by omega
      have z5 : (i : Int) + 1 ≤ (n2 : Int) := by omega
      have i1 : (0 : Int) ≤ (u : Int) := by omega
      have i2 : (u : Int) < (V : Int) := by omega
      have t2 : decide ((u : Int) < 0) = false := decide_eq_false (by omega)
      have hb2 := hid b2
      replace hln := hid hln
      replace hL := hid hL
      clear up hat hi cy b2 c0 c1
      go_wp2_with fail
      refine wp_region_noPanic ?_
      refine wp_region_held_drew (S := fun w' => w'.cell? ⟨w.heap.size, 1, none⟩ = some (.slice (some ⟨b1, o1, none⟩) V cap) ∧ w'.cell? ⟨b1, o1 + u, none⟩ = some (.slice (some ⟨g, o, none⟩) n2 cap2)) (by kernel_rfl) ⟨e1, ex⟩ (fun hHeld => ?_)
      refine takeH (i := 0) (v := ?_) (a' := ?_) ({ dst := some 35, op := Op.move (Operand.tmp 9), type := 30, pos := "ref.go:102", after := #[], guard := none }) rfl (by kernel_rfl) (by kernel_rfl) (by kernel_rfl) (fun _ _ _ h => h) (by rfl) ?_ (by assumption) ?_ ?_
      rotate_left 2
      · (intro w' hSw; obtain ⟨q1, q2⟩ := hSw; go_simp; try with_reducible rfl)
      · (simp only [Act.put, List.setIfInBounds_toArray, List.set_cons_zero, List.set_cons_succ]; try rfl)
      refine takeH (i := 1) (v := ?_) (a' := ?_) ({ dst := some 36, op := Op.fieldAddr 27 (Operand.tmp 2) 1, type := 0, pos := "ref.go:102", after := #[], guard := none }) rfl (by kernel_rfl) (by kernel_rfl) (by kernel_rfl) (fun _ _ _ h => h) (by rfl) ?_ (by assumption) ?_ ?_
      rotate_left 2
      · (intro w' hSw; obtain ⟨q1, q2⟩ := hSw; go_simp; try with_reducible rfl)
      · (simp only [Act.put, List.setIfInBounds_toArray, List.set_cons_zero, List.set_cons_succ]; try rfl)
      refine takeH (i := 2) (v := ?_) (a' := ?_) ({ dst := some 37, op := Op.load 25 (Operand.tmp 36), type := 25, pos := "ref.go:102", after := #[{ on := 1, ground := Ground.data }], guard := none }) rfl (by kernel_rfl) (by kernel_rfl) (by kernel_rfl) (fun _ _ _ h => h) (by rfl) ?_ (by assumption) ?_ ?_
      rotate_left 2
      · (intro w' hSw; obtain ⟨q1, q2⟩ := hSw; go_simp; try with_reducible rfl)
      · (simp only [Act.put, List.setIfInBounds_toArray, List.set_cons_zero, List.set_cons_succ]; try rfl)
      refine takeH (i := 3) (v := ?_) (a' := ?_) ({ dst := some 38, op := Op.move (Operand.tmp 7), type := 3, pos := "ref.go:102", after := #[], guard := none }) rfl (by kernel_rfl) (by kernel_rfl) (by kernel_rfl) (fun _ _ _ h => h) (by rfl) ?_ (by assumption) ?_ ?_
      rotate_left 2
      · (intro w' hSw; obtain ⟨q1, q2⟩ := hSw; go_simp; try with_reducible rfl)
      · (simp only [Act.put, List.setIfInBounds_toArray, List.set_cons_zero, List.set_cons_succ]; try rfl)
      refine takeH (i := 4) (v := ?_) (a' := ?_) ({ dst := some 39, op := Op.indexAddr 25 (Operand.tmp 37) (Operand.tmp 38), type := 0, pos := "ref.go:102", after := #[{ on := 2, ground := Ground.data }, { on := 3, ground := Ground.data }], guard := none }) rfl (by kernel_rfl) (by kernel_rfl) (by kernel_rfl) (fun _ _ _ h => h) (by rfl) ?_ (by assumption) ?_ ?_
      rotate_left 2
      · (intro w' hSw; obtain ⟨q1, q2⟩ := hSw; go_simp; try with_reducible rfl)
      · (simp only [Act.put, List.setIfInBounds_toArray, List.set_cons_zero, List.set_cons_succ]; try rfl)
      refine takeH (i := 5) (v := ?_) (a' := ?_) ({ dst := some 40, op := Op.load 30 (Operand.tmp 39), type := 30, pos := "ref.go:102", after := #[{ on := 4, ground := Ground.data }], guard := none }) rfl (by kernel_rfl) (by kernel_rfl) (by kernel_rfl) (fun _ _ _ h => h) (by rfl) ?_ (by assumption) ?_ ?_
      rotate_left 2
      · (intro w' hSw; obtain ⟨q1, q2⟩ := hSw; go_simp; try with_reducible rfl)
      · (simp only [Act.put, List.setIfInBounds_toArray, List.set_cons_zero, List.set_cons_succ]; try rfl)
      refine takeH (i := 6) (v := ?_) (a' := ?_) ({ dst := some 41, op := Op.move (Operand.tmp 8), type := 3, pos := "ref.go:102", after := #[], guard := none }) rfl (by kernel_rfl) (by kernel_rfl) (by kernel_rfl) (fun _ _ _ h => h) (by rfl) ?_ (by assumption) ?_ ?_
      rotate_left 2
      · (intro w' hSw; obtain ⟨q1, q2⟩ := hSw; go_simp; try with_reducible rfl)
      · (simp only [Act.put, List.setIfInBounds_toArray, List.set_cons_zero, List.set_cons_succ]; try rfl)
      refine takeH (i := 7) (v := ?_) (a' := ?_) ({ dst := some 42, op := Op.slice 30 (Operand.tmp 40) none (some (Operand.tmp 41)) none, type := 30, pos := "ref.go:102", after := #[{ on := 5, ground := Ground.data }, { on := 6, ground := Ground.data }], guard := none }) rfl (by kernel_rfl) (by kernel_rfl) (by kernel_rfl) (fun _ _ _ h => h) (by rfl) ?_ (by assumption) ?_ ?_
      rotate_left 2
      · (intro w' hSw; obtain ⟨q1, q2⟩ := hSw; go_simp; try with_reducible rfl)
      · (simp only [Act.put, List.setIfInBounds_toArray, List.set_cons_zero, List.set_cons_succ]; try rfl)
      refine takeH (i := 9) (v := ?_) (a' := ?_) ({ dst := some 44, op := Op.fieldAddr 27 (Operand.tmp 2) 1, type := 0, pos := "ref.go:102", after := #[], guard := none }) rfl (by kernel_rfl) (by kernel_rfl) (by kernel_rfl) (fun _ _ _ h => h) (by rfl) ?_ (by assumption) ?_ ?_
      rotate_left 2
      · (intro w' hSw; obtain ⟨q1, q2⟩ := hSw; go_simp; try with_reducible rfl)
      · (simp only [Act.put, List.setIfInBounds_toArray, List.set_cons_zero, List.set_cons_succ]; try rfl)
      refine takeH (i := 10) (v := ?_) (a' := ?_) ({ dst := some 45, op := Op.load 25 (Operand.tmp 44), type := 25, pos := "ref.go:102", after := #[{ on := 9, ground := Ground.data }], guard := none }) rfl (by kernel_rfl) (by kernel_rfl) (by kernel_rfl) (fun _ _ _ h => h) (by rfl) ?_ (by assumption) ?_ ?_
      rotate_left 2
      · (intro w' hSw; obtain ⟨q1, q2⟩ := hSw; go_simp; try with_reducible rfl)
      · (simp only [Act.put, List.setIfInBounds_toArray, List.set_cons_zero, List.set_cons_succ]; try rfl)
      refine takeH (i := 11) (v := ?_) (a' := ?_) ({ dst := some 46, op := Op.move (Operand.tmp 7), type := 3, pos := "ref.go:102", after := #[], guard := none }) rfl (by kernel_rfl) (by kernel_rfl) (by kernel_rfl) (fun _ _ _ h => h) (by rfl) ?_ (by assumption) ?_ ?_
      rotate_left 2
      · (intro w' hSw; obtain ⟨q1, q2⟩ := hSw; go_simp; try with_reducible rfl)
      · (simp only [Act.put, List.setIfInBounds_toArray, List.set_cons_zero, List.set_cons_succ]; try rfl)
      refine takeH (i := 12) (v := ?_) (a' := ?_) ({ dst := some 47, op := Op.indexAddr 25 (Operand.tmp 45) (Operand.tmp 46), type := 0, pos := "ref.go:102", after := #[{ on := 10, ground := Ground.data }, { on := 11, ground := Ground.data }], guard := none }) rfl (by kernel_rfl) (by kernel_rfl) (by kernel_rfl) (fun _ _ _ h => h) (by rfl) ?_ (by assumption) ?_ ?_
      rotate_left 2
      · (intro w' hSw; obtain ⟨q1, q2⟩ := hSw; go_simp; try with_reducible rfl)
      · (simp only [Act.put, List.setIfInBounds_toArray, List.set_cons_zero, List.set_cons_succ]; try rfl)
      refine takeH (i := 13) (v := ?_) (a' := ?_) ({ dst := some 48, op := Op.load 30 (Operand.tmp 47), type := 30, pos := "ref.go:102", after := #[{ on := 12, ground := Ground.data }], guard := none }) rfl (by kernel_rfl) (by kernel_rfl) (by kernel_rfl) (fun _ _ _ h => h) (by rfl) ?_ (by assumption) ?_ ?_
      rotate_left 2
      · (intro w' hSw; obtain ⟨q1, q2⟩ := hSw; go_simp; try with_reducible rfl)
      · (simp only [Act.put, List.setIfInBounds_toArray, List.set_cons_zero, List.set_cons_succ]; try rfl)
      refine takeH (i := 14) (v := ?_) (a' := ?_) ({ dst := some 49, op := Op.move (Operand.tmp 8), type := 3, pos := "ref.go:102", after := #[], guard := none }) rfl (by kernel_rfl) (by kernel_rfl) (by kernel_rfl) (fun _ _ _ h => h) (by rfl) ?_ (by assumption) ?_ ?_
      rotate_left 2
      · (intro w' hSw; obtain ⟨q1, q2⟩ := hSw; go_simp; try with_reducible rfl)
      · (simp only [Act.put, List.setIfInBounds_toArray, List.set_cons_zero, List.set_cons_succ]; try rfl)
      refine takeH (i := 15) (v := ?_) (a' := ?_) ({ dst := some 50, op := Op.binOp BinOp.add 3 (Operand.tmp 49) (Operand.const (Value.int IntKind.i64 1)) 3, type := 3, pos := "ref.go:102", after := #[{ on := 14, ground := Ground.data }], guard := none }) rfl (by kernel_rfl) (by kernel_rfl) (by kernel_rfl) (fun _ _ _ h => h) (by rfl) ?_ (by assumption) ?_ ?_
      rotate_left 2
      · (intro w' hSw; obtain ⟨q1, q2⟩ := hSw; go_simp; try with_reducible rfl)
      · (simp only [Act.put, List.setIfInBounds_toArray, List.set_cons_zero, List.set_cons_succ]; try rfl)
      refine takeH (i := 16) (v := .slice (some ad8) (n2 - (i + 1)) (cap2 - (i + 1))) (a' := ?_) ({ dst := some 51, op := Op.slice 30 (Operand.tmp 48) (some (Operand.tmp 50)) none none, type := 30, pos := "ref.go:102", after := #[{ on := 13, ground := Ground.data }, { on := 15, ground := Ground.data }], guard := none }) rfl (by kernel_rfl) (by kernel_rfl) (by kernel_rfl) (fun _ _ _ h => h) (by rfl) ?_ (by assumption) ?_ ?_
      rotate_left 1
      · (intro w' hSw; go_simp; rw [← had8]; by_cases hq : cap2 = i + 1 <;> simp [hq] <;> (intro hz; omega))
      · (simp only [Act.put, List.setIfInBounds_toArray, List.set_cons_zero, List.set_cons_succ]; try rfl)
      refine wpAnyH_ready (rs := [8]) (by kernel_rfl) (by simp) ?_
      refine AllReadyH.cons (o := { dst := some 43, op := Op.call { callee := Callee.builtin Builtin.append, args := #[Operand.tmp 35, Operand.tmp 42], argTypes := #[30, 30] }, type := 30, pos := "ref.go:102", after := #[{ on := 0, ground := Ground.data }, { on := 7, ground := Ground.data }], guard := none }) rfl (fun K hK => ?_) AllReadyH.nil
      refine step_append_own rfl (.tmp 35) (.tmp 42) 30 rfl w2.heap.size 3 j0 _ 1 8 Tryz.underlying30 hjf hy0 hy1 hy2 rfl (by decide) (.slice none 0 0) 0 [] (by rfl) (World.ownsRow_nil _ _ _ _) ⟨g, o, none⟩ i cap2 (ncs (l.take i)) (by rfl) hlT hcT (ncs_one _) (by unfold maxLen; omega) (by omega) (by simp) ?_
      intro v1 x1 hown1 hgrow1
      refine hK.out _ _ ⟨hgrow1.cell (show w2.drew.cell? _ = _ from e1) (by simp [Value.ownBlock]), hgrow1.cell (show w2.drew.cell? _ = _ from ex) (by simp [Value.ownBlock])⟩ (fun hHeld => ?_)
      clear hK K
      try simp only [Act.put, List.setIfInBounds_toArray, List.set_cons_zero, List.set_cons_succ]
      refine wpAnyH_ready (rs := [17]) (by kernel_rfl) (by simp) ?_
      refine AllReadyH.cons (o := { dst := some 52, op := Op.call { callee := Callee.builtin Builtin.append, args := #[Operand.tmp 43, Operand.tmp 51], argTypes := #[30, 30] }, type := 30, pos := "ref.go:102", after := #[{ on := 8, ground := Ground.data }, { on := 16, ground := Ground.data }, { on := 8, ground := Ground.chain }], guard := none }) rfl (fun K hK => ?_) AllReadyH.nil
      refine step_append_own rfl (.tmp 43) (.tmp 51) 30 rfl w2.heap.size 3 j0 _ 1 8 Tryz.underlying30 hjf hy0 hy1 hy2 rfl (by decide) v1 (0 + i) ([] ++ (ncs (l.take i))) (by rfl) hown1 ad8 (n2 - (i + 1)) (cap2 - (i + 1)) (ncs (l.drop (i + 1))) (by rfl) hlD (hcD.out x1 hgrow1) (ncs_one _) (by unfold maxLen; omega) (by omega) (by have := hgrow1.size; simp at this; omega) ?_
      intro v2 x2 hown2 hgrow2
      refine hK.out _ _ ⟨stay hown1 hgrow1 hgrow2 e1, stay hown1 hgrow1 hgrow2 ex⟩ (fun hHeld => ?_)
      clear hK K
      try simp only [Act.put, List.setIfInBounds_toArray, List.set_cons_zero, List.set_cons_succ]
      refine takeH (i := 18) (v := ?_) (a' := ?_) ({ dst := some 9, op := Op.assign (Operand.tmp 52), type := 30, pos := "ref.go:102", after := #[{ on := 17, ground := Ground.data }, { on := 17, ground := Ground.chain }, { on := 0, ground := Ground.phase }, { on := 1, ground := Ground.phase }, { on := 2, ground := Ground.phase }, { on := 3, ground := Ground.phase }, { on := 4, ground := Ground.phase }, { on := 5, ground := Ground.phase }, { on := 6, ground := Ground.phase }, { on := 7, ground := Ground.phase }, { on := 8, ground := Ground.phase }, { on := 9, ground := Ground.phase }, { on := 10, ground := Ground.phase }, { on := 11, ground := Ground.phase }, { on := 12, ground := Ground.phase }, { on := 13, ground := Ground.phase }, { on := 14, ground := Ground.phase }, { on := 15, ground := Ground.phase }, { on := 16, ground := Ground.phase }, { on := 17, ground := Ground.phase }], guard := none }) rfl (by kernel_rfl) (by kernel_rfl) (by kernel_rfl) (fun _ _ _ h => h) (by rfl) ?_ (by assumption) ?_ ?_
      rotate_left 2
      · (intro w' hSw; obtain ⟨q1, q2⟩ := hSw; go_simp; try with_reducible rfl)
      · (simp only [Act.put, List.setIfInBounds_toArray, List.set_cons_zero, List.set_cons_succ]; try rfl)
      refine wpAnyH_done (by kernel_rfl) ?_ _
      refine NoPanic.normal ?_
      have hbF : Below w2.heap.size w2 x2 := ((Below.refl w2.heap.size w2).drew.grown hgrow1 (Nat.le_refl _) (fun k hk => by cases hk)).grown hgrow2 hgrow1.size (fun k hk => (hown1.lt k hk).1)
      have hbr : Below wr.heap.size wr x2 := hb2.out.trans (hbF.mono hb2.out.size)
      obtain ⟨l2, hl2⟩ : ∃ l2, l2 = (lf2 R e k u).erase (2 * e + k) := ⟨_, rfl⟩
      have hll : Hid (l2.length = n2 - 1) := by
        rw [hl2, ← hler.out, List.length_append, List.length_take, List.length_drop, hln.out]
        exact hid (by omega)
      have hrow : x2.ownsRow w2.heap.size 3 1 v2 l2.length (ncs l2) := by
        rw [hll.out, show n2 - 1 = 0 + i + (n2 - (i + 1)) from by omega, hl2, ← hler.out, ncs_append]
        simpa using hown2
      have hnl := hid (nl_of hrow)
      have r2 := hid (hrt.out.below hbr)
      have mp1 : Hid (x2.heap[w.heap.size]? = _) := (hbr.block _ (Array.getElem?_eq_some_iff.1 kp1.out).1).trans kp1.out
      have mp2 : Hid (x2.heap[w.heap.size + 1]? = _) := (hbr.block _ (Array.getElem?_eq_some_iff.1 kp2.out).1).trans kp2.out
      obtain ⟨y0, y1, _, _⟩ := blk2 mp1.out
      have mb : Hid (Below w.heap.size w x2) := kb.out.trans (hbr.mono kb.out.size)
      obtain ⟨va, vn, vc, rfl, _⟩ := hnl.out
      clear hown1 hgrow1 hown2 hgrow2 hbF hcT hcD had8 hlT hlD hHeld e0 e1 ex hrow hbr
      go_wp2_with fail
      refine (hwi.out k u _ _ l2 x2 r2.out hnl.out hu).mono ?_
      rintro x3 w3 ⟨tv', rfl, ⟨lv3, rfl, hr3⟩, b3⟩
      have hr3' := hr3
      obtain ⟨ad3, cp3, rfl, _⟩ := hr3'
      have hlt1 := (Array.getElem?_eq_some_iff.1 mp1.out).1
      have hlt2 := (Array.getElem?_eq_some_iff.1 mp2.out).1
      have s1 := (b3.block _ hlt1).trans mp1.out
      have s2 := (b3.block _ hlt2).trans mp2.out
      obtain ⟨f1, f2, f3, f4⟩ := blk2 s1
      have hcg : ∀ q, q < V → upd (lf2 R e k) u l2 q = lf2 R e (k + 1) q := fun q hq => by
        rw [hl2, upd_out (lf2_tn ht k) hu kdu.out q hq, lf2_next k hlt]
      have hnext : Hid (LS w E V (lf2 R e (k + 1)) ((w3.setCell ⟨w.heap.size, 0, none⟩ (.int .i64 (E : Int))).setCell ⟨w.heap.size, 1, none⟩ (.slice ad3 V cp3))) :=
        ⟨_, set2_block s1 _ _, by rw [Below.heap_setCell _ _ _ _ (by show w.heap.size + 1 ≠ w.heap.size; omega), Below.heap_setCell _ _ _ _ (by show w.heap.size + 1 ≠ w.heap.size; omega)]; exact s2,
          (hr3.al (set2_al s1 _ _)).congr hcg, below2 (mb.out.trans (b3.mono mb.out.size)) (Nat.le_refl _) _ _⟩
      clear hr3 b3 s1 s2 hcg hlt1 hlt2 y0 y1
      go_wp2_with fail
      go_roundw
      case rel => exact ⟨k + 1, by omega, by go_num, hnext⟩
      case measure => simp [intOf]; omega
    · obtain rfl : k = 2 := by omega
      obtain ⟨lv2, p1, p2, p3, p4⟩ := hst.out
      have p3' := p3
      obtain ⟨ad3, cp3, rfl, _⟩ := p3'
      obtain ⟨c0, c1, _, _⟩ := blk2 p1
      obtain ⟨f1, f2, f3, f4⟩ := blk2 p2
      have hfin := hid (set2_block p2 (.int .i64 (E : Int)) (.slice ad3 V cp3))
      have hnr := hid (p3.al (set2_al p2 (.int .i64 (E : Int)) (.slice ad3 V cp3)))
      have hbb := hid (below2 p4 (Nat.le_succ _) (.int .i64 (E : Int)) (.slice ad3 V cp3))
      clear hst p1 p2 p3 p4
      go_wp2_with fail
      refine bodyPost_ret (results_cell2 rfl _ _ (w.heap.size + 1) 27 _ (0, 0) _ rfl hfin.out Tryz.underlying27 rfl (by kernel_rfl)) rfl ?_
      exact ⟨_, rfl, ⟨_, rfl, hnr.out⟩, hbb.out⟩

end Go.Proofs.YtghpjljnbdjmaaaGreatDoor
