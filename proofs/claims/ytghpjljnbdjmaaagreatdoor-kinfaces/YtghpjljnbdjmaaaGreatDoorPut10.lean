/- The document's put, walked. -/
import Derived.Test.YtghpjljnbdjmaaaGreatDoorLift10
namespace Go.Proofs.YtghpjljnbdjmaaaGreatDoor
open Go.RowKit
set_option linter.unusedVariables false

/-- append of nothing onto a row of the call's own, as one step of a region that draws. -/
theorem step_append_none {P : Program} {ops : Array Oper} {o : Oper} {a : Act} {w : World} {K : Act → World → Prop} {Q : Exit → Act → World → Prop} {E : Prop}
    (hg : o.guard = none) (s x : Operand) (t : TypeId) (hop : o.op = Op.call { callee := Callee.builtin Builtin.append, args := #[s, x], argTypes := #[t, t] })
    (base : Nat) (e : TypeId) (i : TypeInfo) (size : Nat) (h1 : P.underlying t = some (.slice e)) (h2 : P.info? e = some i)
    (v : Value) (n : Nat) (xs : List Value) (hs : a.eval s = v) (hown : w.ownsRow base e size v n xs) (hx : a.eval x = .slice none 0 0)
    (hK : K (a.put o.dst v) w) :
    if Region.wanted o (yielded ops a.tmps) = true then Oper.wp P o a w K Q else E := by
  have hw : Region.wanted o (yielded ops a.tmps) = true := by simp [Region.wanted, hg]
  rw [if_pos hw]
  have hrun := run_append_owned_none (P := P) (w := w) base t o.type e i size h1 h2 v n xs hown
  unfold Oper.wp
  simp [execOp, hop, resolve, invoke, builtin, hs, hx, hrun, Result.andThen]
  exact hK

set_option maxRecDepth 100000 in
set_option maxHeartbeats 4000000 in
theorem rput_ok (tv : Value) (E V u d KK : Nat) (bh : Int) (R : Nat → List Nat) (w : World) (hv : RT w tv E V R) (hnd : (R u).Nodup) (hu : u < V) (hV : V ≤ 1000) (hl : (R u).length ≤ 1000)
    (hK : ((∀ y ∈ R u, (y : Int) ≠ bh) ∧ KK = (R u).length) ∨ ∃ b p : Nat, KK = p + 1 ∧ (R u)[p]? = some b ∧ (b : Int) = bh) :
    Calls Tryz.prog 99 #[tv, .int .i64 (d : Int), .int .i64 (u : Int), .int .i64 bh] w fun e w' => ∃ tv', e = .returned tv' ∧ RT w' tv' E V (upd R u ((R u).take KK ++ d :: (R u).drop KK)) ∧ Below w.heap.size w w' := by
  obtain ⟨j0, hjf, hy0, hy1, hy2⟩ := info_parts infoInt
  have hwi := hid (fun v lv (l : List Nat) y (hy : RT y v E V R) (hq : NL y lv l) => rwith_ok v lv E V u R l y hy hq hu hV)
  obtain ⟨lv, rfl, hr⟩ := hv
  have hr0 := hid hr
  obtain ⟨ad, cap, rfl, hcap, hcap2, hro⟩ := hr
  obtain ⟨b1, o1, x, rfl, cx0, hx⟩ := hro u hu
  obtain ⟨c0, c1⟩ := two_new w (.int .i64 (E : Int)) (.slice (some ⟨b1, o1, none⟩) V cap) 27
  obtain ⟨w1, hw1⟩ : ∃ w1, (w.alloc (.cells #[.int .i64 (E : Int), .slice (some ⟨b1, o1, none⟩) V cap] 27)).alloc (.cells #[.int .i64 0, .slice none 0 0] 27) = w1 := ⟨_, rfl⟩
  have hbb : Hid (Below w.heap.size w w1) := by rw [← hw1]; exact hid ((balloc _ _).trans ((balloc _ _).mono (by simp)))
  have q1 : Hid (w1.heap[w.heap.size]? = some (.cells #[.int .i64 (E : Int), .slice (some ⟨b1, o1, none⟩) V cap] 27 (0, 0))) := by
    rw [← hw1]
    exact hid (((balloc (w.alloc (.cells #[.int .i64 (E : Int), .slice (some ⟨b1, o1, none⟩) V cap] 27)) (.cells #[.int .i64 0, .slice none 0 0] 27)).block _ (by simp)).trans (heap_alloc_new w _))
  have q2 : Hid (w1.heap[w.heap.size + 1]? = some (.cells #[.int .i64 0, .slice none 0 0] 27 (0, 0))) := by
    rw [← hw1]
    have h1 := heap_alloc_new (w.alloc (.cells #[.int .i64 (E : Int), .slice (some ⟨b1, o1, none⟩) V cap] 27)) (.cells #[.int .i64 0, .slice none 0 0] 27)
    exact hid (by simpa only [World.size_alloc] using h1)
  have cx := (hbb.out.cell (World.block_lt_of_cell? _ _ cx0)).trans cx0
  replace hx := hx.below hbb.out
  obtain ⟨e0, e1, _, _⟩ := blk2 q1.out
  obtain ⟨ad2, n2, cap2, rfl, hn2, hc2, hc3, hcell⟩ := hx
  obtain ⟨l, hL⟩ : ∃ l, l = R u := ⟨_, rfl⟩
  rw [← hL] at hn2 hcell hnd hl hK ⊢
  rw [hn2] at hl
  have hKn : KK ≤ n2 ∧ (n2 = 0 → KK = 0) ∧ (KK = 0 → n2 = 0) := by
    rcases hK with ⟨e, rfl⟩ | ⟨b, p, rfl, h2, _⟩
    · omega
    · have := (List.getElem?_eq_some_iff.1 h2).1; omega
  have hKj : Hid (∀ (j y : Nat), l[j]? = some y → ((y : Int) = bh → KK = j + 1) ∧ ((y : Int) ≠ bh → KK = j + 1 → KK = n2)) := fun j y hy => by
    rcases hK with ⟨e, rfl⟩ | ⟨b, p, rfl, h2, h3⟩
    · exact ⟨fun h => absurd h (e y (List.mem_of_getElem? hy)), fun _ _ => hn2⟩
    · constructor
      · intro e
        have hyb : y = b := by omega
        subst hyb
        have : p = j := (List.getElem?_inj (List.getElem?_eq_some_iff.1 h2).1 hnd).1 (h2.trans hy.symm)
        omega
      · intro hne e
        have : p = j := by omega
        subst this
        rw [h2] at hy
        cases hy
        exact absurd h3 hne
  replace hn2 := hid hn2
  replace hcell := hid hcell
  replace hnd := hid hnd
  replace hL := hid hL
  have i1 : (0 : Int) ≤ (u : Int) := by omega
  have i2 : (u : Int) < (V : Int) := by omega
  obtain ⟨hK1, hK2, hK3⟩ := hKn
  clear hro cx0 hK c0 c1
  go_enter Tryz.func99, Tryz.ntmps99
  go_wp2_with fail
  try rw [hw1]
  go_wp2_with fail
  clear hw1
  go_loop [10, 11] (fun s10 s11 => ∃ j : Nat, ∃ a : Int, j ≤ n2 ∧ s11 = .int .i64 (j : Int) ∧ s10 = .int .i64 a ∧ Hid ((j < KK → a = (n2 : Int) - 1) ∧ (KK ≤ j → a = (KK : Int) - 1)))
    (fun _ s11 => n2 - (intOf s11).toNat)
  case atStart => exact ⟨0, (n2 : Int) - 1, by omega, by go_num, by first | rfl | go_num, fun _ => rfl, fun h => by omega⟩
  case round =>
    obtain ⟨j, a, hj, rfl, rfl, hst⟩ := hrel
    rcases Nat.lt_or_ge j n2 with hlt | hge
    · obtain ⟨y, hy⟩ : ∃ y, l[j]? = some y := ⟨_, List.getElem?_eq_getElem (by rw [hn2.out]; exact hlt)⟩
      obtain ⟨g, o, rfl, cy⟩ := hcell.out j y hy
      have hyk := hKj.out j y hy
      have i3 : (0 : Int) ≤ (j : Int) := by omega
      have i4 : (j : Int) < (n2 : Int) := by omega
      by_cases e : (y : Int) = bh
      · have t1 : ((y : Int) == bh) = true := by simp [e]
        have hk : KK = j + 1 := hyk.1 e
        subst e
        clear hyk hy
        go_wp2_with fail
        go_round
        case rel => exact ⟨j + 1, (j : Int), by omega, by go_num, rfl, fun h => by omega, fun h => by omega⟩
        case measure => simp [intOf]; omega
      · have t1 : ((y : Int) == bh) = false := by simpa using e
        have hk := hid (hyk.2 e)
        clear hyk hy
        go_wp2_with fail
        go_round
        case rel => exact ⟨j + 1, a, by omega, by go_num, rfl, fun h => hst.out.1 (by omega), fun h => by
          rcases Nat.lt_or_ge j KK with h5 | h5
          · have h6 := hst.out.1 h5
            have h7 := hk.out (by omega)
            omega
          · exact hst.out.2 h5⟩
        case measure => simp [intOf]; omega
    · obtain rfl : n2 = j := by omega
      obtain rfl : a = (KK : Int) - 1 := hst.out.2 hK1
      clear hst hKj
      have hszz := (Array.getElem?_eq_some_iff.1 q2.out).1
      have hlen' : Hid ((l.take KK ++ d :: l.drop KK).length = n2 + 1) := by
        have := hn2.out
        rw [List.length_append, List.length_take, List.length_cons, List.length_drop]
        exact hid (by omega)
      rcases ad2 with _ | aa
      · obtain rfl : cap2 = 0 := hc2.2.1 rfl
        obtain rfl : n2 = 0 := by have := hc2.1; omega
        obtain rfl : KK = 0 := hK2 rfl
        have hl0 : l = [] := List.eq_nil_of_length_eq_zero hn2.out
        have hnil0 : ∀ x : World, x.ownsRow w1.heap.size 3 1 (.slice none 0 0) 0 (ncs (l.take 0)) := fun x => World.ownsRow_nil _ _ _ _
        have hnilF : ∀ (v : Value) (x : World), x.ownsRow w1.heap.size 3 1 v (0 + 1) (ncs (l.take 0 ++ [d])) → x.ownsRow w1.heap.size 3 1 v (0 + 1) (ncs (l.take 0 ++ d :: l.drop 0)) := fun v x h => by rw [hl0] at h ⊢; exact h
        clear hcell
        go_wp2_with fail
        refine wp_region_noPanic ?_
        refine wp_region_held_drew (S := fun _ => True) (by kernel_rfl) trivial (fun hHeld => ?_)
        refine takeH (i := 0) (v := ?_) (a' := ?_) ({ dst := some 34, op := Op.move (Operand.tmp 12), type := 30, pos := "ref.go:67", after := #[], guard := none }) rfl (by kernel_rfl) (by kernel_rfl) (by kernel_rfl) (fun _ _ _ h => h) (by rfl) ?_ (by assumption) ?_ ?_
        rotate_left 2
        · (intro w' hSw; go_simp; try with_reducible rfl)
        · (simp only [Act.put, List.setIfInBounds_toArray, List.set_cons_zero, List.set_cons_succ]; try rfl)
        refine takeH (i := 1) (v := ?_) (a' := ?_) ({ dst := some 35, op := Op.move (Operand.tmp 9), type := 30, pos := "ref.go:67", after := #[], guard := none }) rfl (by kernel_rfl) (by kernel_rfl) (by kernel_rfl) (fun _ _ _ h => h) (by rfl) ?_ (by assumption) ?_ ?_
        rotate_left 2
        · (intro w' hSw; go_simp; try with_reducible rfl)
        · (simp only [Act.put, List.setIfInBounds_toArray, List.set_cons_zero, List.set_cons_succ]; try rfl)
        refine takeH (i := 2) (v := ?_) (a' := ?_) ({ dst := some 36, op := Op.move (Operand.tmp 10), type := 3, pos := "ref.go:67", after := #[], guard := none }) rfl (by kernel_rfl) (by kernel_rfl) (by kernel_rfl) (fun _ _ _ h => h) (by rfl) ?_ (by assumption) ?_ ?_
        rotate_left 2
        · (intro w' hSw; go_simp; try with_reducible rfl)
        · (simp only [Act.put, List.setIfInBounds_toArray, List.set_cons_zero, List.set_cons_succ]; try rfl)
        refine takeH (i := 3) (v := .int .i64 0) (a' := ?_) ({ dst := some 37, op := Op.binOp BinOp.add 3 (Operand.tmp 36) (Operand.const (Value.int IntKind.i64 1)) 3, type := 3, pos := "ref.go:67", after := #[{ on := 2, ground := Ground.data }], guard := none }) rfl (by kernel_rfl) (by kernel_rfl) (by kernel_rfl) (fun _ _ _ h => h) (by rfl) ?_ (by assumption) ?_ ?_
        rotate_left 1
        · (intro w' hSw; go_simp; try rfl)
        · (simp only [Act.put, List.setIfInBounds_toArray, List.set_cons_zero, List.set_cons_succ]; try rfl)
        refine takeH (i := 4) (v := .slice none 0 0) (a' := ?_) ({ dst := some 38, op := Op.slice 30 (Operand.tmp 35) none (some (Operand.tmp 37)) none, type := 30, pos := "ref.go:67", after := #[{ on := 1, ground := Ground.data }, { on := 3, ground := Ground.data }], guard := none }) rfl (by kernel_rfl) (by kernel_rfl) (by kernel_rfl) (fun _ _ _ h => h) (by rfl) ?_ (by assumption) ?_ ?_
        rotate_left 1
        · (intro w' hSw; go_simp; try rfl)
        · (simp only [Act.put, List.setIfInBounds_toArray, List.set_cons_zero, List.set_cons_succ]; try rfl)
        refine takeH (i := 6) (v := ?_) (a' := ?_) ({ dst := some 40, op := Op.move (Operand.tmp 1), type := 3, pos := "ref.go:67", after := #[], guard := none }) rfl (by kernel_rfl) (by kernel_rfl) (by kernel_rfl) (fun _ _ _ h => h) (by rfl) ?_ (by assumption) ?_ ?_
        rotate_left 2
        · (intro w' hSw; go_simp; try with_reducible rfl)
        · (simp only [Act.put, List.setIfInBounds_toArray, List.set_cons_zero, List.set_cons_succ]; try rfl)
        refine takeH (i := 9) (v := ?_) (a' := ?_) ({ dst := some 43, op := Op.move (Operand.tmp 9), type := 30, pos := "ref.go:67", after := #[], guard := none }) rfl (by kernel_rfl) (by kernel_rfl) (by kernel_rfl) (fun _ _ _ h => h) (by rfl) ?_ (by assumption) ?_ ?_
        rotate_left 2
        · (intro w' hSw; go_simp; try with_reducible rfl)
        · (simp only [Act.put, List.setIfInBounds_toArray, List.set_cons_zero, List.set_cons_succ]; try rfl)
        refine takeH (i := 10) (v := ?_) (a' := ?_) ({ dst := some 44, op := Op.move (Operand.tmp 10), type := 3, pos := "ref.go:67", after := #[], guard := none }) rfl (by kernel_rfl) (by kernel_rfl) (by kernel_rfl) (fun _ _ _ h => h) (by rfl) ?_ (by assumption) ?_ ?_
        rotate_left 2
        · (intro w' hSw; go_simp; try with_reducible rfl)
        · (simp only [Act.put, List.setIfInBounds_toArray, List.set_cons_zero, List.set_cons_succ]; try rfl)
        refine takeH (i := 11) (v := .int .i64 0) (a' := ?_) ({ dst := some 45, op := Op.binOp BinOp.add 3 (Operand.tmp 44) (Operand.const (Value.int IntKind.i64 1)) 3, type := 3, pos := "ref.go:67", after := #[{ on := 10, ground := Ground.data }], guard := none }) rfl (by kernel_rfl) (by kernel_rfl) (by kernel_rfl) (fun _ _ _ h => h) (by rfl) ?_ (by assumption) ?_ ?_
        rotate_left 1
        · (intro w' hSw; go_simp; try rfl)
        · (simp only [Act.put, List.setIfInBounds_toArray, List.set_cons_zero, List.set_cons_succ]; try rfl)
        refine takeH (i := 12) (v := .slice none 0 0) (a' := ?_) ({ dst := some 46, op := Op.slice 30 (Operand.tmp 43) (some (Operand.tmp 45)) none none, type := 30, pos := "ref.go:67", after := #[{ on := 9, ground := Ground.data }, { on := 11, ground := Ground.data }], guard := none }) rfl (by kernel_rfl) (by kernel_rfl) (by kernel_rfl) (fun _ _ _ h => h) (by rfl) ?_ (by assumption) ?_ ?_
        rotate_left 1
        · (intro w' hSw; go_simp; try rfl)
        · (simp only [Act.put, List.setIfInBounds_toArray, List.set_cons_zero, List.set_cons_succ]; try rfl)
        refine wpAnyH_ready (rs := [5, 7]) (by kernel_rfl) (by simp) ?_
        refine AllReadyH.cons (o := { dst := some 39, op := Op.call { callee := Callee.builtin Builtin.append, args := #[Operand.tmp 34, Operand.tmp 38], argTypes := #[30, 30] }, type := 30, pos := "ref.go:67", after := #[{ on := 0, ground := Ground.data }, { on := 4, ground := Ground.data }], guard := none }) rfl (fun K hK => ?_) (AllReadyH.cons (o := { dst := some 41, op := Op.buildSlice 30 1 #[(0, Operand.tmp 40)], type := 30, pos := "ref.go:67", after := #[{ on := 6, ground := Ground.data }], guard := none }) rfl (fun K hK => ?_) AllReadyH.nil)
        · skip
          refine step_append_none rfl (.tmp 34) (.tmp 38) 30 rfl w1.heap.size 3 j0 1 Tryz.underlying30 hjf (.slice none 0 0) 0 [] (by rfl) (World.ownsRow_nil _ _ _ _) (by rfl) ?_
          have hown1 : World.ownsRow w1.drew w1.heap.size 3 1 (.slice none 0 0) 0 (ncs (l.take 0)) := hnil0 _
          have hb1 : Below w1.heap.size w1 w1.drew := (Below.refl w1.heap.size w1).drew
          refine hK.out _ _ trivial (fun hHeld => ?_)
          clear hK K
          try simp only [Act.put, List.setIfInBounds_toArray, List.set_cons_zero, List.set_cons_succ]
          refine wpAnyH_ready (rs := [7]) (by kernel_rfl) (by simp) ?_
          refine AllReadyH.cons (o := { dst := some 41, op := Op.buildSlice 30 1 #[(0, Operand.tmp 40)], type := 30, pos := "ref.go:67", after := #[{ on := 6, ground := Ground.data }], guard := none }) rfl (fun K hK => ?_) AllReadyH.nil
          go_simp
          refine hK.out _ _ trivial (fun hHeld => ?_)
          clear hK K
          try simp only [Act.put, List.setIfInBounds_toArray, List.set_cons_zero, List.set_cons_succ]
          refine wpAnyH_ready (rs := [8]) (by kernel_rfl) (by simp) ?_
          refine AllReadyH.cons (o := { dst := some 42, op := Op.call { callee := Callee.builtin Builtin.append, args := #[Operand.tmp 39, Operand.tmp 41], argTypes := #[30, 30] }, type := 30, pos := "ref.go:67", after := #[{ on := 5, ground := Ground.data }, { on := 7, ground := Ground.data }, { on := 5, ground := Ground.chain }], guard := none }) rfl (fun K hK => ?_) AllReadyH.nil
          refine step_append_own rfl (.tmp 39) (.tmp 41) 30 rfl w1.heap.size 3 j0 _ 1 8 Tryz.underlying30 hjf hy0 hy1 hy2 rfl (by decide) (.slice none 0 0) 0 (ncs (l.take 0)) (by rfl) (hown1.alloc _) ⟨w1.heap.size, 0, none⟩ 1 1 [.int .i64 (d : Int)] (by rfl) rfl (one_new w1.drew _ _) (by simp [Value.oneCell']) (by unfold maxLen; omega) (by omega) (hb1.alloc hb1.size _).size ?_
          intro v2 x2 how0' hgrow2
          have how0 : x2.ownsRow w1.heap.size 3 1 v2 (0 + 1) (ncs (l.take 0 ++ [d])) := by rw [ncs_append]; exact how0'
          have hb2 : Below w1.heap.size w1 x2 := below_row (hb1.alloc hb1.size _) (Nat.le_refl _) (hown1.alloc _) (Nat.le_refl _) hgrow2
          refine hK.out _ _ trivial (fun hHeld => ?_)
          clear hK K
          try simp only [Act.put, List.setIfInBounds_toArray, List.set_cons_zero, List.set_cons_succ]
          refine wpAnyH_ready (rs := [13]) (by kernel_rfl) (by simp) ?_
          refine AllReadyH.cons (o := { dst := some 47, op := Op.call { callee := Callee.builtin Builtin.append, args := #[Operand.tmp 42, Operand.tmp 46], argTypes := #[30, 30] }, type := 30, pos := "ref.go:67", after := #[{ on := 8, ground := Ground.data }, { on := 12, ground := Ground.data }, { on := 8, ground := Ground.chain }], guard := none }) rfl (fun K hK => ?_) AllReadyH.nil
          refine step_append_none rfl (.tmp 42) (.tmp 46) 30 rfl w1.heap.size 3 j0 1 Tryz.underlying30 hjf v2 (0 + 1) _ (by rfl) how0 (by rfl) ?_
          obtain ⟨vF, hvF⟩ : ∃ vF, vF = v2 := ⟨_, rfl⟩
          obtain ⟨xF, hxF⟩ : ∃ xF, xF = x2 := ⟨_, rfl⟩
          subst hvF hxF
          have hownF := hnilF _ _ how0
          have hbF := hb2
          refine hK.out _ _ trivial (fun hHeld => ?_)
          clear hK K
          try simp only [Act.put, List.setIfInBounds_toArray, List.set_cons_zero, List.set_cons_succ]
          refine takeH (i := 14) (v := ?_) (a' := ?_) ({ dst := some 12, op := Op.assign (Operand.tmp 47), type := 30, pos := "ref.go:67", after := #[{ on := 13, ground := Ground.data }, { on := 13, ground := Ground.chain }, { on := 0, ground := Ground.phase }, { on := 1, ground := Ground.phase }, { on := 2, ground := Ground.phase }, { on := 3, ground := Ground.phase }, { on := 4, ground := Ground.phase }, { on := 5, ground := Ground.phase }, { on := 6, ground := Ground.phase }, { on := 7, ground := Ground.phase }, { on := 8, ground := Ground.phase }, { on := 9, ground := Ground.phase }, { on := 10, ground := Ground.phase }, { on := 11, ground := Ground.phase }, { on := 12, ground := Ground.phase }, { on := 13, ground := Ground.phase }], guard := none }) rfl (by kernel_rfl) (by kernel_rfl) (by kernel_rfl) (fun _ _ _ h => h) (by rfl) ?_ (by assumption) ?_ ?_
          rotate_left 2
          · (intro w' hSw; go_simp; try with_reducible rfl)
          · (simp only [Act.put, List.setIfInBounds_toArray, List.set_cons_zero, List.set_cons_succ]; try rfl)
          refine wpAnyH_done (by kernel_rfl) ?_ _
          refine NoPanic.normal ?_
          have hB := hbb.out.trans (hbF.mono hbb.out.size)
          have hnl := hid (nl_of (l := l.take 0 ++ d :: l.drop 0) (base := w1.heap.size) (w := xF) (v := vF) (by rw [hlen'.out]; exact hownF))
          have r2 : Hid (RT xF (.agg #[.int .i64 (E : Int), .slice (some ⟨b1, o1, none⟩) V cap]) E V R) := hid ⟨_, rfl, hr0.out.below hB⟩
          have mp1 : Hid (xF.heap[w.heap.size]? = _) := (hbF.block _ (Array.getElem?_eq_some_iff.1 q1.out).1).trans q1.out
          have mp2 : Hid (xF.heap[w.heap.size + 1]? = _) := (hbF.block _ hszz).trans q2.out
          obtain ⟨y0, y1, _, _⟩ := blk2 mp1.out
          replace hB := hid hB
          obtain ⟨va, vn, vc, rfl, _⟩ := hnl.out
          clear how0 hownF hbF hb1 hb2 hHeld e0 e1 cx
          go_wp2_with fail
          refine (hwi.out _ _ _ xF r2.out hnl.out).mono ?_
          rintro x3 w3 ⟨tv', rfl, ⟨lv3, rfl, hr3⟩, b3⟩
          have hr3' := hr3
          obtain ⟨ad3, cp3, rfl, _⟩ := hr3'
          have hlt2 := (Array.getElem?_eq_some_iff.1 mp2.out).1
          have s2 := (b3.block _ hlt2).trans mp2.out
          obtain ⟨f1, f2, f3, f4⟩ := blk2 s2
          have hfin := hid (set2_block s2 (.int .i64 (E : Int)) (.slice ad3 V cp3))
          have hnr := hid (hr3.al (set2_al s2 (.int .i64 (E : Int)) (.slice ad3 V cp3)))
          have hbl := hid (below2 (hB.out.trans (b3.mono hB.out.size)) (Nat.le_succ _) (.int .i64 (E : Int)) (.slice ad3 V cp3))
          clear hr3 b3 s2 hlt2 y0 y1
          go_wp2_with fail
          refine bodyPost_ret (results_cell_row rfl _ _ (w.heap.size + 1) 27 _ (0, 0) _ rfl hfin.out Tryz.underlying27 rfl (by kernel_rfl)) rfl ?_
          exact ⟨_, rfl, ⟨_, rfl, hnr.out⟩, hbl.out⟩
        · skip
          go_simp
          refine hK.out _ _ trivial (fun hHeld => ?_)
          clear hK K
          try simp only [Act.put, List.setIfInBounds_toArray, List.set_cons_zero, List.set_cons_succ]
          refine wpAnyH_ready (rs := [5]) (by kernel_rfl) (by simp) ?_
          refine AllReadyH.cons (o := { dst := some 39, op := Op.call { callee := Callee.builtin Builtin.append, args := #[Operand.tmp 34, Operand.tmp 38], argTypes := #[30, 30] }, type := 30, pos := "ref.go:67", after := #[{ on := 0, ground := Ground.data }, { on := 4, ground := Ground.data }], guard := none }) rfl (fun K hK => ?_) AllReadyH.nil
          refine step_append_none rfl (.tmp 34) (.tmp 38) 30 rfl w1.heap.size 3 j0 1 Tryz.underlying30 hjf (.slice none 0 0) 0 [] (by rfl) (World.ownsRow_nil _ _ _ _) (by rfl) ?_
          have hown1 : World.ownsRow (w1.drew.alloc (.cells #[.int .i64 (d : Int)] 3)) w1.heap.size 3 1 (.slice none 0 0) 0 (ncs (l.take 0)) := hnil0 _
          have hb1 : Below w1.heap.size w1 (w1.drew.alloc (.cells #[.int .i64 (d : Int)] 3)) := ((Below.refl w1.heap.size w1).drew.alloc (Nat.le_refl _) _)
          refine hK.out _ _ trivial (fun hHeld => ?_)
          clear hK K
          try simp only [Act.put, List.setIfInBounds_toArray, List.set_cons_zero, List.set_cons_succ]
          refine wpAnyH_ready (rs := [8]) (by kernel_rfl) (by simp) ?_
          refine AllReadyH.cons (o := { dst := some 42, op := Op.call { callee := Callee.builtin Builtin.append, args := #[Operand.tmp 39, Operand.tmp 41], argTypes := #[30, 30] }, type := 30, pos := "ref.go:67", after := #[{ on := 5, ground := Ground.data }, { on := 7, ground := Ground.data }, { on := 5, ground := Ground.chain }], guard := none }) rfl (fun K hK => ?_) AllReadyH.nil
          refine step_append_own rfl (.tmp 39) (.tmp 41) 30 rfl w1.heap.size 3 j0 _ 1 8 Tryz.underlying30 hjf hy0 hy1 hy2 rfl (by decide) (.slice none 0 0) 0 (ncs (l.take 0)) (by rfl) hown1 ⟨w1.heap.size, 0, none⟩ 1 1 [.int .i64 (d : Int)] (by rfl) rfl (one_new w1.drew _ _) (by simp [Value.oneCell']) (by unfold maxLen; omega) (by omega) (hb1).size ?_
          intro v2 x2 how0' hgrow2
          have how0 : x2.ownsRow w1.heap.size 3 1 v2 (0 + 1) (ncs (l.take 0 ++ [d])) := by rw [ncs_append]; exact how0'
          have hb2 : Below w1.heap.size w1 x2 := below_row (hb1) (Nat.le_refl _) hown1 (Nat.le_refl _) hgrow2
          refine hK.out _ _ trivial (fun hHeld => ?_)
          clear hK K
          try simp only [Act.put, List.setIfInBounds_toArray, List.set_cons_zero, List.set_cons_succ]
          refine wpAnyH_ready (rs := [13]) (by kernel_rfl) (by simp) ?_
          refine AllReadyH.cons (o := { dst := some 47, op := Op.call { callee := Callee.builtin Builtin.append, args := #[Operand.tmp 42, Operand.tmp 46], argTypes := #[30, 30] }, type := 30, pos := "ref.go:67", after := #[{ on := 8, ground := Ground.data }, { on := 12, ground := Ground.data }, { on := 8, ground := Ground.chain }], guard := none }) rfl (fun K hK => ?_) AllReadyH.nil
          refine step_append_none rfl (.tmp 42) (.tmp 46) 30 rfl w1.heap.size 3 j0 1 Tryz.underlying30 hjf v2 (0 + 1) _ (by rfl) how0 (by rfl) ?_
          obtain ⟨vF, hvF⟩ : ∃ vF, vF = v2 := ⟨_, rfl⟩
          obtain ⟨xF, hxF⟩ : ∃ xF, xF = x2 := ⟨_, rfl⟩
          subst hvF hxF
          have hownF := hnilF _ _ how0
          have hbF := hb2
          refine hK.out _ _ trivial (fun hHeld => ?_)
          clear hK K
          try simp only [Act.put, List.setIfInBounds_toArray, List.set_cons_zero, List.set_cons_succ]
          refine takeH (i := 14) (v := ?_) (a' := ?_) ({ dst := some 12, op := Op.assign (Operand.tmp 47), type := 30, pos := "ref.go:67", after := #[{ on := 13, ground := Ground.data }, { on := 13, ground := Ground.chain }, { on := 0, ground := Ground.phase }, { on := 1, ground := Ground.phase }, { on := 2, ground := Ground.phase }, { on := 3, ground := Ground.phase }, { on := 4, ground := Ground.phase }, { on := 5, ground := Ground.phase }, { on := 6, ground := Ground.phase }, { on := 7, ground := Ground.phase }, { on := 8, ground := Ground.phase }, { on := 9, ground := Ground.phase }, { on := 10, ground := Ground.phase }, { on := 11, ground := Ground.phase }, { on := 12, ground := Ground.phase }, { on := 13, ground := Ground.phase }], guard := none }) rfl (by kernel_rfl) (by kernel_rfl) (by kernel_rfl) (fun _ _ _ h => h) (by rfl) ?_ (by assumption) ?_ ?_
          rotate_left 2
          · (intro w' hSw; go_simp; try with_reducible rfl)
          · (simp only [Act.put, List.setIfInBounds_toArray, List.set_cons_zero, List.set_cons_succ]; try rfl)
          refine wpAnyH_done (by kernel_rfl) ?_ _
          refine NoPanic.normal ?_
          have hB := hbb.out.trans (hbF.mono hbb.out.size)
          have hnl := hid (nl_of (l := l.take 0 ++ d :: l.drop 0) (base := w1.heap.size) (w := xF) (v := vF) (by rw [hlen'.out]; exact hownF))
          have r2 : Hid (RT xF (.agg #[.int .i64 (E : Int), .slice (some ⟨b1, o1, none⟩) V cap]) E V R) := hid ⟨_, rfl, hr0.out.below hB⟩
          have mp1 : Hid (xF.heap[w.heap.size]? = _) := (hbF.block _ (Array.getElem?_eq_some_iff.1 q1.out).1).trans q1.out
          have mp2 : Hid (xF.heap[w.heap.size + 1]? = _) := (hbF.block _ hszz).trans q2.out
          obtain ⟨y0, y1, _, _⟩ := blk2 mp1.out
          replace hB := hid hB
          obtain ⟨va, vn, vc, rfl, _⟩ := hnl.out
          clear how0 hownF hbF hb1 hb2 hHeld e0 e1 cx
          go_wp2_with fail
          refine (hwi.out _ _ _ xF r2.out hnl.out).mono ?_
          rintro x3 w3 ⟨tv', rfl, ⟨lv3, rfl, hr3⟩, b3⟩
          have hr3' := hr3
          obtain ⟨ad3, cp3, rfl, _⟩ := hr3'
          have hlt2 := (Array.getElem?_eq_some_iff.1 mp2.out).1
          have s2 := (b3.block _ hlt2).trans mp2.out
          obtain ⟨f1, f2, f3, f4⟩ := blk2 s2
          have hfin := hid (set2_block s2 (.int .i64 (E : Int)) (.slice ad3 V cp3))
          have hnr := hid (hr3.al (set2_al s2 (.int .i64 (E : Int)) (.slice ad3 V cp3)))
          have hbl := hid (below2 (hB.out.trans (b3.mono hB.out.size)) (Nat.le_succ _) (.int .i64 (E : Int)) (.slice ad3 V cp3))
          clear hr3 b3 s2 hlt2 y0 y1
          go_wp2_with fail
          refine bodyPost_ret (results_cell_row rfl _ _ (w.heap.size + 1) 27 _ (0, 0) _ rfl hfin.out Tryz.underlying27 rfl (by kernel_rfl)) rfl ?_
          exact ⟨_, rfl, ⟨_, rfl, hnr.out⟩, hbl.out⟩
      · obtain ⟨g, o, rfl, _⟩ := hc2.2.2 _ rfl
        have hc1 := hc2.1
        have hcs : Hid (∀ (j x : Nat), l[j]? = some x → w1.cell? ⟨g, o + j, none⟩ = some (.int .i64 (x : Int))) := fun j x hx => by
          obtain ⟨b', o', e', c'⟩ := hcell.out j x hx
          cases e'
          exact c'
        have hlT : (ncs (l.take KK)).length = KK * 1 := by have := hn2.out; rw [ncs_length, List.length_take]; omega
        have hlD : (ncs (l.drop KK)).length = (n2 - KK) * 1 := by have := hn2.out; rw [ncs_length, List.length_drop]; omega
        have hcT : Hid (∀ x : World, Below w1.heap.size w1 x → ∀ j u, (ncs (l.take KK))[j]? = some u → x.cell? ((⟨g, o, none⟩ : Addr).add j) = some u) := fun x hb j u hu => by
          rw [add_zero]
          unfold ncs at hu
          rw [List.getElem?_map, Option.map_eq_some_iff] at hu
          obtain ⟨y, hy, rfl⟩ := hu
          rw [List.getElem?_take] at hy
          split at hy
          · have := hcs.out j y hy
            exact (hb.cell (World.block_lt_of_cell? _ _ this)).trans this
          · cases hy
        obtain ⟨ad8, had8, hcD⟩ : ∃ ad8 : Addr, (if cap2 = KK then (⟨g, o, none⟩ : Addr) else ⟨g, o + KK, none⟩) = ad8 ∧ Hid (∀ x : World, Below w1.heap.size w1 x → ∀ j u, (ncs (l.drop KK))[j]? = some u → x.cell? (ad8.add j) = some u) := by
          refine ⟨_, rfl, hid (fun x hb j u hu => ?_)⟩
          by_cases hcp : cap2 = KK
          · have hj := (List.getElem?_eq_some_iff.1 hu).1
            rw [hlD] at hj
            omega
          · rw [if_neg hcp, add_zero]
            unfold ncs at hu
            rw [List.getElem?_map, Option.map_eq_some_iff] at hu
            obtain ⟨y, hy, rfl⟩ := hu
            rw [List.getElem?_drop] at hy
            have := hcs.out _ y hy
            rw [← Nat.add_assoc] at this
            exact (hb.cell (World.block_lt_of_cell? _ _ this)).trans this
        have zw : IntKind.i64.wrap ((KK : Int) - 1 + 1) = (KK : Int) := by rw [IntKind.wrap_i64]; omega
        have zw2 : IntKind.i64.wrap (KK : Int) = (KK : Int) := by rw [IntKind.wrap_i64]; omega
        have z1 : (KK : Int) ≤ (cap2 : Int) := by omega
        have z2 : (0 : Int) ≤ (KK : Int) := by omega
        have z4 : (n2 : Int) ≤ (cap2 : Int) := by omega
        have z5 : (KK : Int) ≤ (n2 : Int) := by omega
        clear hcell
        go_wp2_with fail
        refine wp_region_noPanic ?_
        refine wp_region_held_drew (S := fun _ => True) (by kernel_rfl) trivial (fun hHeld => ?_)
        refine takeH (i := 0) (v := ?_) (a' := ?_) ({ dst := some 34, op := Op.move (Operand.tmp 12), type := 30, pos := "ref.go:67", after := #[], guard := none }) rfl (by kernel_rfl) (by kernel_rfl) (by kernel_rfl) (fun _ _ _ h => h) (by rfl) ?_ (by assumption) ?_ ?_
        rotate_left 2
        · (intro w' hSw; go_simp; try with_reducible rfl)
        · (simp only [Act.put, List.setIfInBounds_toArray, List.set_cons_zero, List.set_cons_succ]; try rfl)
        refine takeH (i := 1) (v := ?_) (a' := ?_) ({ dst := some 35, op := Op.move (Operand.tmp 9), type := 30, pos := "ref.go:67", after := #[], guard := none }) rfl (by kernel_rfl) (by kernel_rfl) (by kernel_rfl) (fun _ _ _ h => h) (by rfl) ?_ (by assumption) ?_ ?_
        rotate_left 2
        · (intro w' hSw; go_simp; try with_reducible rfl)
        · (simp only [Act.put, List.setIfInBounds_toArray, List.set_cons_zero, List.set_cons_succ]; try rfl)
        refine takeH (i := 2) (v := ?_) (a' := ?_) ({ dst := some 36, op := Op.move (Operand.tmp 10), type := 3, pos := "ref.go:67", after := #[], guard := none }) rfl (by kernel_rfl) (by kernel_rfl) (by kernel_rfl) (fun _ _ _ h => h) (by rfl) ?_ (by assumption) ?_ ?_
        rotate_left 2
        · (intro w' hSw; go_simp; try with_reducible rfl)
        · (simp only [Act.put, List.setIfInBounds_toArray, List.set_cons_zero, List.set_cons_succ]; try rfl)
        refine takeH (i := 3) (v := .int .i64 (KK : Int)) (a' := ?_) ({ dst := some 37, op := Op.binOp BinOp.add 3 (Operand.tmp 36) (Operand.const (Value.int IntKind.i64 1)) 3, type := 3, pos := "ref.go:67", after := #[{ on := 2, ground := Ground.data }], guard := none }) rfl (by kernel_rfl) (by kernel_rfl) (by kernel_rfl) (fun _ _ _ h => h) (by rfl) ?_ (by assumption) ?_ ?_
        rotate_left 1
        · (intro w' hSw; go_simp; try simp [zw, zw2])
        · (simp only [Act.put, List.setIfInBounds_toArray, List.set_cons_zero, List.set_cons_succ]; try rfl)
        refine takeH (i := 4) (v := .slice (some ⟨g, o, none⟩) KK cap2) (a' := ?_) ({ dst := some 38, op := Op.slice 30 (Operand.tmp 35) none (some (Operand.tmp 37)) none, type := 30, pos := "ref.go:67", after := #[{ on := 1, ground := Ground.data }, { on := 3, ground := Ground.data }], guard := none }) rfl (by kernel_rfl) (by kernel_rfl) (by kernel_rfl) (fun _ _ _ h => h) (by rfl) ?_ (by assumption) ?_ ?_
        rotate_left 1
        · (intro w' hSw; go_simp; try rfl)
        · (simp only [Act.put, List.setIfInBounds_toArray, List.set_cons_zero, List.set_cons_succ]; try rfl)
        refine takeH (i := 6) (v := ?_) (a' := ?_) ({ dst := some 40, op := Op.move (Operand.tmp 1), type := 3, pos := "ref.go:67", after := #[], guard := none }) rfl (by kernel_rfl) (by kernel_rfl) (by kernel_rfl) (fun _ _ _ h => h) (by rfl) ?_ (by assumption) ?_ ?_
        rotate_left 2
        · (intro w' hSw; go_simp; try with_reducible rfl)
        · (simp only [Act.put, List.setIfInBounds_toArray, List.set_cons_zero, List.set_cons_succ]; try rfl)
        refine takeH (i := 9) (v := ?_) (a' := ?_) ({ dst := some 43, op := Op.move (Operand.tmp 9), type := 30, pos := "ref.go:67", after := #[], guard := none }) rfl (by kernel_rfl) (by kernel_rfl) (by kernel_rfl) (fun _ _ _ h => h) (by rfl) ?_ (by assumption) ?_ ?_
        rotate_left 2
        · (intro w' hSw; go_simp; try with_reducible rfl)
        · (simp only [Act.put, List.setIfInBounds_toArray, List.set_cons_zero, List.set_cons_succ]; try rfl)
        refine takeH (i := 10) (v := ?_) (a' := ?_) ({ dst := some 44, op := Op.move (Operand.tmp 10), type := 3, pos := "ref.go:67", after := #[], guard := none }) rfl (by kernel_rfl) (by kernel_rfl) (by kernel_rfl) (fun _ _ _ h => h) (by rfl) ?_ (by assumption) ?_ ?_
        rotate_left 2
        · (intro w' hSw; go_simp; try with_reducible rfl)
        · (simp only [Act.put, List.setIfInBounds_toArray, List.set_cons_zero, List.set_cons_succ]; try rfl)
        refine takeH (i := 11) (v := .int .i64 (KK : Int)) (a' := ?_) ({ dst := some 45, op := Op.binOp BinOp.add 3 (Operand.tmp 44) (Operand.const (Value.int IntKind.i64 1)) 3, type := 3, pos := "ref.go:67", after := #[{ on := 10, ground := Ground.data }], guard := none }) rfl (by kernel_rfl) (by kernel_rfl) (by kernel_rfl) (fun _ _ _ h => h) (by rfl) ?_ (by assumption) ?_ ?_
        rotate_left 1
        · (intro w' hSw; go_simp; try simp [zw, zw2])
        · (simp only [Act.put, List.setIfInBounds_toArray, List.set_cons_zero, List.set_cons_succ]; try rfl)
        refine takeH (i := 12) (v := .slice (some ad8) (n2 - KK) (cap2 - KK)) (a' := ?_) ({ dst := some 46, op := Op.slice 30 (Operand.tmp 43) (some (Operand.tmp 45)) none none, type := 30, pos := "ref.go:67", after := #[{ on := 9, ground := Ground.data }, { on := 11, ground := Ground.data }], guard := none }) rfl (by kernel_rfl) (by kernel_rfl) (by kernel_rfl) (fun _ _ _ h => h) (by rfl) ?_ (by assumption) ?_ ?_
        rotate_left 1
        · (intro w' hSw; go_simp; rw [← had8]; by_cases hq : cap2 = KK <;> simp [hq])
        · (simp only [Act.put, List.setIfInBounds_toArray, List.set_cons_zero, List.set_cons_succ]; try rfl)
        refine wpAnyH_ready (rs := [5, 7]) (by kernel_rfl) (by simp) ?_
        refine AllReadyH.cons (o := { dst := some 39, op := Op.call { callee := Callee.builtin Builtin.append, args := #[Operand.tmp 34, Operand.tmp 38], argTypes := #[30, 30] }, type := 30, pos := "ref.go:67", after := #[{ on := 0, ground := Ground.data }, { on := 4, ground := Ground.data }], guard := none }) rfl (fun K hK => ?_) (AllReadyH.cons (o := { dst := some 41, op := Op.buildSlice 30 1 #[(0, Operand.tmp 40)], type := 30, pos := "ref.go:67", after := #[{ on := 6, ground := Ground.data }], guard := none }) rfl (fun K hK => ?_) AllReadyH.nil)
        · skip
          refine step_append_own rfl (.tmp 34) (.tmp 38) 30 rfl w1.heap.size 3 j0 _ 1 8 Tryz.underlying30 hjf hy0 hy1 hy2 rfl (by decide) (.slice none 0 0) 0 [] (by rfl) (World.ownsRow_nil _ _ _ _) ⟨g, o, none⟩ KK cap2 (ncs (l.take KK)) (by rfl) hlT (hcT.out _ (Below.refl w1.heap.size w1).drew) (ncs_one _) (by unfold maxLen; omega) (by omega) (by simp) ?_
          intro v1 x1 hown1' hgrow1
          have hown1 : x1.ownsRow w1.heap.size 3 1 v1 KK (ncs (l.take KK)) := by simpa using hown1'
          have hb1 : Below w1.heap.size w1 x1 := ((Below.refl w1.heap.size w1).drew).grown hgrow1 (by simp) (fun k hk => by cases hk)
          refine hK.out _ _ trivial (fun hHeld => ?_)
          clear hK K
          try simp only [Act.put, List.setIfInBounds_toArray, List.set_cons_zero, List.set_cons_succ]
          refine wpAnyH_ready (rs := [7]) (by kernel_rfl) (by simp) ?_
          refine AllReadyH.cons (o := { dst := some 41, op := Op.buildSlice 30 1 #[(0, Operand.tmp 40)], type := 30, pos := "ref.go:67", after := #[{ on := 6, ground := Ground.data }], guard := none }) rfl (fun K hK => ?_) AllReadyH.nil
          go_simp
          refine hK.out _ _ trivial (fun hHeld => ?_)
          clear hK K
          try simp only [Act.put, List.setIfInBounds_toArray, List.set_cons_zero, List.set_cons_succ]
          refine wpAnyH_ready (rs := [8]) (by kernel_rfl) (by simp) ?_
          refine AllReadyH.cons (o := { dst := some 42, op := Op.call { callee := Callee.builtin Builtin.append, args := #[Operand.tmp 39, Operand.tmp 41], argTypes := #[30, 30] }, type := 30, pos := "ref.go:67", after := #[{ on := 5, ground := Ground.data }, { on := 7, ground := Ground.data }, { on := 5, ground := Ground.chain }], guard := none }) rfl (fun K hK => ?_) AllReadyH.nil
          refine step_append_own rfl (.tmp 39) (.tmp 41) 30 rfl w1.heap.size 3 j0 _ 1 8 Tryz.underlying30 hjf hy0 hy1 hy2 rfl (by decide) v1 KK (ncs (l.take KK)) (by rfl) (hown1.alloc _) ⟨x1.heap.size, 0, none⟩ 1 1 [.int .i64 (d : Int)] (by rfl) rfl (one_new x1 _ _) (by simp [Value.oneCell']) (by unfold maxLen; omega) (by omega) (hb1.alloc hb1.size _).size ?_
          intro v2 x2 hown2' hgrow2
          have hown2 : x2.ownsRow w1.heap.size 3 1 v2 (KK + 1) (ncs (l.take KK ++ [d])) := by rw [ncs_append]; exact hown2'
          have hb2 : Below w1.heap.size w1 x2 := below_row (hb1.alloc hb1.size _) (Nat.le_refl _) (hown1.alloc _) (Nat.le_refl _) hgrow2
          refine hK.out _ _ trivial (fun hHeld => ?_)
          clear hK K
          try simp only [Act.put, List.setIfInBounds_toArray, List.set_cons_zero, List.set_cons_succ]
          refine wpAnyH_ready (rs := [13]) (by kernel_rfl) (by simp) ?_
          refine AllReadyH.cons (o := { dst := some 47, op := Op.call { callee := Callee.builtin Builtin.append, args := #[Operand.tmp 42, Operand.tmp 46], argTypes := #[30, 30] }, type := 30, pos := "ref.go:67", after := #[{ on := 8, ground := Ground.data }, { on := 12, ground := Ground.data }, { on := 8, ground := Ground.chain }], guard := none }) rfl (fun K hK => ?_) AllReadyH.nil
          refine step_append_own rfl (.tmp 42) (.tmp 46) 30 rfl w1.heap.size 3 j0 _ 1 8 Tryz.underlying30 hjf hy0 hy1 hy2 rfl (by decide) v2 (KK + 1) (ncs (l.take KK ++ [d])) (by rfl) hown2 ad8 (n2 - KK) (cap2 - KK) (ncs (l.drop KK)) (by rfl) hlD (hcD.out _ hb2) (ncs_one _) (by unfold maxLen; omega) (by omega) hb2.size ?_
          intro vF xF hownF' hgrowF
          have hownF : xF.ownsRow w1.heap.size 3 1 vF (n2 + 1) (ncs (l.take KK ++ d :: l.drop KK)) := by rw [show l.take KK ++ d :: l.drop KK = (l.take KK ++ [d]) ++ l.drop KK from by simp, ncs_append, show n2 + 1 = KK + 1 + (n2 - KK) from by omega]; exact hownF'
          have hbF : Below w1.heap.size w1 xF := below_row hb2 (Nat.le_refl _) hown2 (Nat.le_refl _) hgrowF
          refine hK.out _ _ trivial (fun hHeld => ?_)
          clear hK K
          try simp only [Act.put, List.setIfInBounds_toArray, List.set_cons_zero, List.set_cons_succ]
          refine takeH (i := 14) (v := ?_) (a' := ?_) ({ dst := some 12, op := Op.assign (Operand.tmp 47), type := 30, pos := "ref.go:67", after := #[{ on := 13, ground := Ground.data }, { on := 13, ground := Ground.chain }, { on := 0, ground := Ground.phase }, { on := 1, ground := Ground.phase }, { on := 2, ground := Ground.phase }, { on := 3, ground := Ground.phase }, { on := 4, ground := Ground.phase }, { on := 5, ground := Ground.phase }, { on := 6, ground := Ground.phase }, { on := 7, ground := Ground.phase }, { on := 8, ground := Ground.phase }, { on := 9, ground := Ground.phase }, { on := 10, ground := Ground.phase }, { on := 11, ground := Ground.phase }, { on := 12, ground := Ground.phase }, { on := 13, ground := Ground.phase }], guard := none }) rfl (by kernel_rfl) (by kernel_rfl) (by kernel_rfl) (fun _ _ _ h => h) (by rfl) ?_ (by assumption) ?_ ?_
          rotate_left 2
          · (intro w' hSw; go_simp; try with_reducible rfl)
          · (simp only [Act.put, List.setIfInBounds_toArray, List.set_cons_zero, List.set_cons_succ]; try rfl)
          refine wpAnyH_done (by kernel_rfl) ?_ _
          refine NoPanic.normal ?_
          have hB := hbb.out.trans (hbF.mono hbb.out.size)
          have hnl := hid (nl_of (l := l.take KK ++ d :: l.drop KK) (base := w1.heap.size) (w := xF) (v := vF) (by rw [hlen'.out]; exact hownF))
          have r2 : Hid (RT xF (.agg #[.int .i64 (E : Int), .slice (some ⟨b1, o1, none⟩) V cap]) E V R) := hid ⟨_, rfl, hr0.out.below hB⟩
          have mp1 : Hid (xF.heap[w.heap.size]? = _) := (hbF.block _ (Array.getElem?_eq_some_iff.1 q1.out).1).trans q1.out
          have mp2 : Hid (xF.heap[w.heap.size + 1]? = _) := (hbF.block _ hszz).trans q2.out
          obtain ⟨y0, y1, _, _⟩ := blk2 mp1.out
          replace hB := hid hB
          obtain ⟨va, vn, vc, rfl, _⟩ := hnl.out
          clear hown2 hownF hbF hb1 hb2 hHeld e0 e1 cx
          go_wp2_with fail
          refine (hwi.out _ _ _ xF r2.out hnl.out).mono ?_
          rintro x3 w3 ⟨tv', rfl, ⟨lv3, rfl, hr3⟩, b3⟩
          have hr3' := hr3
          obtain ⟨ad3, cp3, rfl, _⟩ := hr3'
          have hlt2 := (Array.getElem?_eq_some_iff.1 mp2.out).1
          have s2 := (b3.block _ hlt2).trans mp2.out
          obtain ⟨f1, f2, f3, f4⟩ := blk2 s2
          have hfin := hid (set2_block s2 (.int .i64 (E : Int)) (.slice ad3 V cp3))
          have hnr := hid (hr3.al (set2_al s2 (.int .i64 (E : Int)) (.slice ad3 V cp3)))
          have hbl := hid (below2 (hB.out.trans (b3.mono hB.out.size)) (Nat.le_succ _) (.int .i64 (E : Int)) (.slice ad3 V cp3))
          clear hr3 b3 s2 hlt2 y0 y1
          go_wp2_with fail
          refine bodyPost_ret (results_cell_row rfl _ _ (w.heap.size + 1) 27 _ (0, 0) _ rfl hfin.out Tryz.underlying27 rfl (by kernel_rfl)) rfl ?_
          exact ⟨_, rfl, ⟨_, rfl, hnr.out⟩, hbl.out⟩
        · skip
          go_simp
          refine hK.out _ _ trivial (fun hHeld => ?_)
          clear hK K
          try simp only [Act.put, List.setIfInBounds_toArray, List.set_cons_zero, List.set_cons_succ]
          refine wpAnyH_ready (rs := [5]) (by kernel_rfl) (by simp) ?_
          refine AllReadyH.cons (o := { dst := some 39, op := Op.call { callee := Callee.builtin Builtin.append, args := #[Operand.tmp 34, Operand.tmp 38], argTypes := #[30, 30] }, type := 30, pos := "ref.go:67", after := #[{ on := 0, ground := Ground.data }, { on := 4, ground := Ground.data }], guard := none }) rfl (fun K hK => ?_) AllReadyH.nil
          refine step_append_own rfl (.tmp 34) (.tmp 38) 30 rfl w1.heap.size 3 j0 _ 1 8 Tryz.underlying30 hjf hy0 hy1 hy2 rfl (by decide) (.slice none 0 0) 0 [] (by rfl) (World.ownsRow_nil _ _ _ _) ⟨g, o, none⟩ KK cap2 (ncs (l.take KK)) (by rfl) hlT (hcT.out _ ((Below.refl w1.heap.size w1).drew.alloc (Nat.le_refl _) _)) (ncs_one _) (by unfold maxLen; omega) (by omega) (by simp) ?_
          intro v1 x1 hown1' hgrow1
          have hown1 : x1.ownsRow w1.heap.size 3 1 v1 KK (ncs (l.take KK)) := by simpa using hown1'
          have hb1 : Below w1.heap.size w1 x1 := (((Below.refl w1.heap.size w1).drew.alloc (Nat.le_refl _) _)).grown hgrow1 (by simp) (fun k hk => by cases hk)
          refine hK.out _ _ trivial (fun hHeld => ?_)
          clear hK K
          try simp only [Act.put, List.setIfInBounds_toArray, List.set_cons_zero, List.set_cons_succ]
          refine wpAnyH_ready (rs := [8]) (by kernel_rfl) (by simp) ?_
          refine AllReadyH.cons (o := { dst := some 42, op := Op.call { callee := Callee.builtin Builtin.append, args := #[Operand.tmp 39, Operand.tmp 41], argTypes := #[30, 30] }, type := 30, pos := "ref.go:67", after := #[{ on := 5, ground := Ground.data }, { on := 7, ground := Ground.data }, { on := 5, ground := Ground.chain }], guard := none }) rfl (fun K hK => ?_) AllReadyH.nil
          refine step_append_own rfl (.tmp 39) (.tmp 41) 30 rfl w1.heap.size 3 j0 _ 1 8 Tryz.underlying30 hjf hy0 hy1 hy2 rfl (by decide) v1 KK (ncs (l.take KK)) (by rfl) hown1 ⟨w1.heap.size, 0, none⟩ 1 1 [.int .i64 (d : Int)] (by rfl) rfl (fun j x hx => hgrow1.cell (one_new w1.drew _ _ j x hx) (by simp [Value.ownBlock])) (by simp [Value.oneCell']) (by unfold maxLen; omega) (by omega) (hb1).size ?_
          intro v2 x2 hown2' hgrow2
          have hown2 : x2.ownsRow w1.heap.size 3 1 v2 (KK + 1) (ncs (l.take KK ++ [d])) := by rw [ncs_append]; exact hown2'
          have hb2 : Below w1.heap.size w1 x2 := below_row (hb1) (Nat.le_refl _) hown1 (Nat.le_refl _) hgrow2
          refine hK.out _ _ trivial (fun hHeld => ?_)
          clear hK K
          try simp only [Act.put, List.setIfInBounds_toArray, List.set_cons_zero, List.set_cons_succ]
          refine wpAnyH_ready (rs := [13]) (by kernel_rfl) (by simp) ?_
          refine AllReadyH.cons (o := { dst := some 47, op := Op.call { callee := Callee.builtin Builtin.append, args := #[Operand.tmp 42, Operand.tmp 46], argTypes := #[30, 30] }, type := 30, pos := "ref.go:67", after := #[{ on := 8, ground := Ground.data }, { on := 12, ground := Ground.data }, { on := 8, ground := Ground.chain }], guard := none }) rfl (fun K hK => ?_) AllReadyH.nil
          refine step_append_own rfl (.tmp 42) (.tmp 46) 30 rfl w1.heap.size 3 j0 _ 1 8 Tryz.underlying30 hjf hy0 hy1 hy2 rfl (by decide) v2 (KK + 1) (ncs (l.take KK ++ [d])) (by rfl) hown2 ad8 (n2 - KK) (cap2 - KK) (ncs (l.drop KK)) (by rfl) hlD (hcD.out _ hb2) (ncs_one _) (by unfold maxLen; omega) (by omega) hb2.size ?_
          intro vF xF hownF' hgrowF
          have hownF : xF.ownsRow w1.heap.size 3 1 vF (n2 + 1) (ncs (l.take KK ++ d :: l.drop KK)) := by rw [show l.take KK ++ d :: l.drop KK = (l.take KK ++ [d]) ++ l.drop KK from by simp, ncs_append, show n2 + 1 = KK + 1 + (n2 - KK) from by omega]; exact hownF'
          have hbF : Below w1.heap.size w1 xF := below_row hb2 (Nat.le_refl _) hown2 (Nat.le_refl _) hgrowF
          refine hK.out _ _ trivial (fun hHeld => ?_)
          clear hK K
          try simp only [Act.put, List.setIfInBounds_toArray, List.set_cons_zero, List.set_cons_succ]
          refine takeH (i := 14) (v := ?_) (a' := ?_) ({ dst := some 12, op := Op.assign (Operand.tmp 47), type := 30, pos := "ref.go:67", after := #[{ on := 13, ground := Ground.data }, { on := 13, ground := Ground.chain }, { on := 0, ground := Ground.phase }, { on := 1, ground := Ground.phase }, { on := 2, ground := Ground.phase }, { on := 3, ground := Ground.phase }, { on := 4, ground := Ground.phase }, { on := 5, ground := Ground.phase }, { on := 6, ground := Ground.phase }, { on := 7, ground := Ground.phase }, { on := 8, ground := Ground.phase }, { on := 9, ground := Ground.phase }, { on := 10, ground := Ground.phase }, { on := 11, ground := Ground.phase }, { on := 12, ground := Ground.phase }, { on := 13, ground := Ground.phase }], guard := none }) rfl (by kernel_rfl) (by kernel_rfl) (by kernel_rfl) (fun _ _ _ h => h) (by rfl) ?_ (by assumption) ?_ ?_
          rotate_left 2
          · (intro w' hSw; go_simp; try with_reducible rfl)
          · (simp only [Act.put, List.setIfInBounds_toArray, List.set_cons_zero, List.set_cons_succ]; try rfl)
          refine wpAnyH_done (by kernel_rfl) ?_ _
          refine NoPanic.normal ?_
          have hB := hbb.out.trans (hbF.mono hbb.out.size)
          have hnl := hid (nl_of (l := l.take KK ++ d :: l.drop KK) (base := w1.heap.size) (w := xF) (v := vF) (by rw [hlen'.out]; exact hownF))
          have r2 : Hid (RT xF (.agg #[.int .i64 (E : Int), .slice (some ⟨b1, o1, none⟩) V cap]) E V R) := hid ⟨_, rfl, hr0.out.below hB⟩
          have mp1 : Hid (xF.heap[w.heap.size]? = _) := (hbF.block _ (Array.getElem?_eq_some_iff.1 q1.out).1).trans q1.out
          have mp2 : Hid (xF.heap[w.heap.size + 1]? = _) := (hbF.block _ hszz).trans q2.out
          obtain ⟨y0, y1, _, _⟩ := blk2 mp1.out
          replace hB := hid hB
          obtain ⟨va, vn, vc, rfl, _⟩ := hnl.out
          clear hown2 hownF hbF hb1 hb2 hHeld e0 e1 cx
          go_wp2_with fail
          refine (hwi.out _ _ _ xF r2.out hnl.out).mono ?_
          rintro x3 w3 ⟨tv', rfl, ⟨lv3, rfl, hr3⟩, b3⟩
          have hr3' := hr3
          obtain ⟨ad3, cp3, rfl, _⟩ := hr3'
          have hlt2 := (Array.getElem?_eq_some_iff.1 mp2.out).1
          have s2 := (b3.block _ hlt2).trans mp2.out
          obtain ⟨f1, f2, f3, f4⟩ := blk2 s2
          have hfin := hid (set2_block s2 (.int .i64 (E : Int)) (.slice ad3 V cp3))
          have hnr := hid (hr3.al (set2_al s2 (.int .i64 (E : Int)) (.slice ad3 V cp3)))
          have hbl := hid (below2 (hB.out.trans (b3.mono hB.out.size)) (Nat.le_succ _) (.int .i64 (E : Int)) (.slice ad3 V cp3))
          clear hr3 b3 s2 hlt2 y0 y1
          go_wp2_with fail
          refine bodyPost_ret (results_cell_row rfl _ _ (w.heap.size + 1) 27 _ (0, 0) _ rfl hfin.out Tryz.underlying27 rfl (by kernel_rfl)) rfl ?_
          exact ⟨_, rfl, ⟨_, rfl, hnr.out⟩, hbl.out⟩

end Go.Proofs.YtghpjljnbdjmaaaGreatDoor
