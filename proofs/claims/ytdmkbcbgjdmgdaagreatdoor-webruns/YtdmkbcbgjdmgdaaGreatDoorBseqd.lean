/- Numbers held against one another. From the reading of an argument that is a slice of acts to the numbers that it holds. What the laws ask of a Forest whatever was done to it. Cycles as sequences: a sequence from one of its items on, round; split, merged, turned. 'At', walked. The errors of the calls that ask a closure. At and List of an item that is none. -/
import Derived.Test.YtdmkbcbgjdmgdaaGreatDoorBseq
import Derived.Test.YtdmkbcbgjdmgdaaGreatDoorBseqc
import Derived.ProofKit
import Derived.OpenShut
import Derived.Deep.Slices
import Derived.Deep.SlicePairs
import Derived.WideKeyPair
import Derived.Deep.RegionHeld3
namespace Go.Proofs.YtdmkbcbgjdmgdaaGreatDoor
open Go.RowKit
set_option linter.unusedVariables false

/-- The value is a slice of these numbers. -/
def Ns (w : World) (v : Value) (zs : List Int) : Prop := ∃ ad cap, v = .slice ad zs.length cap ∧ (ad = none → zs = []) ∧ zs.length ≤ 4294967296 ∧ ∀ a, ad = some a → ∀ (j : Nat) z, zs[j]? = some z → w.cell? (a.add j) = some (.int .i64 z)

theorem Ns.below {w w' : World} {v : Value} {zs : List Int} (h : Ns w v zs) (hb : Below w.heap.size w w') : Ns w' v zs := by
  obtain ⟨ad, cap, h1, h2, h3, h4⟩ := h
  refine ⟨ad, cap, h1, h2, h3, fun a ha j z hz => ?_⟩
  have hc := h4 a ha j z hz
  rw [hb.cell (World.block_lt_of_cell? w _ hc)]
  exact hc

/-- The items of nodes. -/
def items (l : List Nat) : List Int := l.map (fun d : Nat => (d : Int) - 1)

theorem items_length (l : List Nat) : (items l).length = l.length := by simp [items]

theorem Rw.ns {w : World} {v : Value} {l : List Nat} (h : Rw w v l) (hl : l.length ≤ 4294967296) : Ns w v (items l) := by
  obtain ⟨ad, cap, h1, h2, h3⟩ := h.form
  refine ⟨ad, cap, by rw [items_length]; exact h1, fun e => by rw [h2 e]; rfl, by rw [items_length]; exact hl, fun a ha j z hz => ?_⟩
  obtain ⟨g, rfl, hc⟩ := h3 a ha
  unfold items at hz
  rw [List.getElem?_map] at hz
  cases hd : l[j]? with
  | none => rw [hd] at hz; cases hz
  | some d =>
    rw [hd] at hz
    rw [show (⟨g, 0, none⟩ : Addr).add j = ⟨g, j, none⟩ from by unfold Addr.add; split <;> simp_all, hc j d hd]
    simp at hz
    subst hz
    rfl

set_option maxRecDepth 100000 in
set_option maxHeartbeats 2000000 in
theorem ints_ok (u v : Value) (zs : List Int) (w : World) (ha : Ns w u zs) (hb : Ns w v zs) :
    Calls Tryz.prog 25 #[u, v] w fun e w' => e = .returned (.bool true) ∧ Below w.heap.size w w' := by
  obtain ⟨a, ca, rfl, na, hl, ha⟩ := ha
  obtain ⟨b, cb, rfl, nb, _, hb⟩ := hb
  have ha := hid ha
  have hb := hid hb
  go_enter Tryz.func25, Tryz.ntmps25
  go_wp2_with fail
  go_loopw [5] (fun u wr => ∃ j : Nat, j ≤ zs.length ∧ u = .int .i64 (j : Int) ∧ Below w.heap.size w wr)
    (fun u _ => zs.length - (intOf u).toNat)
  case atStart => exact ⟨0, by omega, by go_num, Below.refl _ _⟩
  case round =>
    obtain ⟨j, hj, rfl, hbr⟩ := hrel
    rcases Nat.lt_or_ge j zs.length with hlt | hge
    · obtain ⟨z, hz⟩ : ∃ z, zs[j]? = some z := ⟨_, List.getElem?_eq_getElem hlt⟩
      cases a with
      | none => have := na rfl; subst this; simp at hlt
      | some a =>
        cases b with
        | none => have := nb rfl; subst this; simp at hlt
        | some b =>
          have hca : wr.cell? (a.add j) = some (.int .i64 z) := by
            have hc := ha.out a rfl j z hz
            rw [hbr.cell (World.block_lt_of_cell? w _ hc)]; exact hc
          have hcb : wr.cell? (b.add j) = some (.int .i64 z) := by
            have hc := hb.out b rfl j z hz
            rw [hbr.cell (World.block_lt_of_cell? w _ hc)]; exact hc
          clear hz
          go_wp2_with fail
          go_region
          go_wp2_with fail
          go_roundw
          case rel => exact ⟨j + 1, by omega, by go_num, hbr.drew⟩
          case measure => simp [intOf]; omega
    · go_wp2_with fail
      go_ret
      exact ⟨rfl, hbr⟩

end Go.Proofs.YtdmkbcbgjdmgdaaGreatDoor

namespace Go.Proofs.YtdmkbcbgjdmgdaaGreatDoor
open Go.ChangeShapes Go.WideShapes Go.ChangeAt Go.RowKit

/-- An act: what, of which two, a value. -/
structure Act4 where
  k : Int
  a : Int
  b : Int
  v : Int

/-- The slice at 'ad' holds these acts. -/
structure Acts (w : World) (ad : Option Addr) (l : List Act4) : Prop where
  nil : ad = none → l = []
  bound : l.length ≤ 9223372036854775807
  rng : ∀ q, q ∈ l → -9223372036854775808 ≤ q.v ∧ q.v ≤ 9223372036854775807
  cell : ∀ a, ad = some a → ∀ (j : Nat) q, l[j]? = some q → w.cell? (a.add (j * 4)) = some (.int .i64 q.k) ∧ w.cell? (a.add (j * 4 + 1)) = some (.int .i64 q.a) ∧ w.cell? (a.add (j * 4 + 2)) = some (.int .i64 q.b) ∧ w.cell? (a.add (j * 4 + 3)) = some (.int .i64 q.v)

theorem Acts.below {w w' : World} {ad : Option Addr} {l : List Act4} (h : Acts w ad l) (hb : Below w.heap.size w w') : Acts w' ad l :=
  ⟨h.nil, h.bound, h.rng, fun a ha j q hz => by
    obtain ⟨h1, h2, h3, h4⟩ := h.cell a ha j q hz
    exact ⟨(hb.cell (World.block_lt_of_cell? w _ h1)).trans h1, (hb.cell (World.block_lt_of_cell? w _ h2)).trans h2, (hb.cell (World.block_lt_of_cell? w _ h3)).trans h3, (hb.cell (World.block_lt_of_cell? w _ h4)).trans h4⟩⟩

theorem add_add (a : Addr) (i j : Nat) : (a.add i).add j = a.add (i + j) := by
  unfold Addr.add
  by_cases hi : i = 0
  · subst hi; simp
  · by_cases hj : j = 0
    · subst hj; simp
    · simp [hi, hj, Nat.add_assoc]

/-- As the walk asks for them. -/
theorem Acts.at {w : World} {a : Addr} {l : List Act4} (h : Acts w (some a) l) {j : Nat} {q : Act4} (hq : l[j]? = some q) :
    w.cell? (a.add (j * 4)) = some (.int .i64 q.k) ∧ w.cell? ⟨(a.add (j * 4)).block, (a.add (j * 4)).off + 1, none⟩ = some (.int .i64 q.a) ∧ w.cell? ⟨(a.add (j * 4)).block, (a.add (j * 4)).off + 2, none⟩ = some (.int .i64 q.b) ∧ w.cell? ⟨(a.add (j * 4)).block, (a.add (j * 4)).off + 3, none⟩ = some (.int .i64 q.v) := by
  obtain ⟨h1, h2, h3, h4⟩ := h.cell a rfl j q hq
  refine ⟨h1, ?_, ?_, ?_⟩
  · show w.cell? ((a.add (j * 4)).add 1) = _
    rw [add_add]; exact h2
  · show w.cell? ((a.add (j * 4)).add 2) = _
    rw [add_add]; exact h3
  · show w.cell? ((a.add (j * 4)).add 3) = _
    rw [add_add]; exact h4

theorem open_acts4 {H : Type} {enc : TypeId × Value → H} {P : Program} {W : World} {t e : TypeId} {f0 f1 f2 f3 : Field} {a : Option Addr} {len cap : Nat} {d : DataW H} {p : List MemPlace}
    (ht : P.underlying t = some (.slice e)) (he : P.underlying e = some (.struct #[f0, f1, f2, f3])) (ce : P.cellsOf e = 4) (o0 : f0.offset = 0) (o1 : f1.offset = 1) (o2 : f2.offset = 2) (o3 : f3.offset = 3)
    (c0 : P.cellsOf f0.type = 1) (c1 : P.cellsOf f1.type = 1) (c2 : P.cellsOf f2.type = 1) (c3 : P.cellsOf f3.type = 1)
    (u0 : P.underlying f0.type = some (.int .i64)) (u1 : P.underlying f1.type = some (.int .i64)) (u2 : P.underlying f2.type = some (.int .i64)) (u3 : P.underlying f3.type = some (.int .i64)) (h : DataW.Trod enc P W 0 (fun _ => true) true t (.slice a len cap) d p) :
    ∃ l : List Act4, len = l.length ∧ len ≤ cap ∧ Acts W a l := by
  obtain ⟨fuel, hf⟩ := h
  rcases Go.Deep.open_slice ht hf with ⟨hcs, _⟩ | ⟨x, l, c, m, n, D, Pl, hcs, _, hl, hm, hmm, hx, hall⟩
  · simp [Value.cells] at hcs
    obtain ⟨rfl, rfl, rfl⟩ := hcs
    exact ⟨[], rfl, Nat.le_refl _, ⟨fun _ => rfl, by simp, by simp, by simp⟩⟩
  · simp [Value.cells] at hcs
    obtain ⟨rfl, rfl, rfl⟩ := hcs
    simp at hmm
    have hv : ∀ i, i < len → ∃ q : Act4, W.cell? (x.add (i * 4)) = some (.int .i64 q.k) ∧ W.cell? (x.add (i * 4 + 1)) = some (.int .i64 q.a) ∧ W.cell? (x.add (i * 4 + 2)) = some (.int .i64 q.b) ∧ W.cell? (x.add (i * 4 + 3)) = some (.int .i64 q.v) ∧ (-9223372036854775808 ≤ q.v ∧ q.v ≤ 9223372036854775807) := by
      intro i hi
      obtain ⟨cs', h1, h2⟩ := hall i (by omega)
      rw [ce] at h1
      obtain ⟨_, hlen, hcell⟩ := World.cells?_some h1
      obtain ⟨xs, k, hk, hxy, _, hxl, hf⟩ := DataW.trod_struct he h2
      match xs, hxl, cs', hlen with
      | [y0, y1, y2, y3], _, [v0, v1, v2, v3], _ =>
        have g0 := hf 0 f0 rfl
        have g1 := hf 1 f1 rfl
        have g2 := hf 2 f2 rfl
        have g3 := hf 3 f3 rfl
        simp [o0, o1, o2, o3, c0, c1, c2, c3] at g0 g1 g2 g3
        have e0 := hcell 0 (by omega)
        have e1 := hcell 1 (by omega)
        have e2 := hcell 2 (by omega)
        have e3 := hcell 3 (by omega)
        rw [add_add] at e0 e1 e2 e3
        obtain ⟨z0, r0, _⟩ := DataW.trod_int u0 g0
        obtain ⟨z1, r1, _⟩ := DataW.trod_int u1 g1
        obtain ⟨z2, r2, _⟩ := DataW.trod_int u2 g2
        obtain ⟨z3, r3, _, w3⟩ := DataW.trod_int u3 g3
        simp at r0 r1 r2 r3
        subst r0 r1 r2 r3
        exact ⟨⟨z0, z1, z2, z3⟩, by simpa using e0, by simpa using e1, by simpa using e2, by simpa using e3, by unfold Lit.wf at w3; rw [Bool.and_eq_true, decide_eq_true_eq, decide_eq_true_eq] at w3; exact ⟨Int.le_trans (by decide) w3.1, Int.le_trans w3.2 (by decide)⟩⟩
    have hv2 : ∀ i, ∃ q : Act4, i < len → W.cell? (x.add (i * 4)) = some (.int .i64 q.k) ∧ W.cell? (x.add (i * 4 + 1)) = some (.int .i64 q.a) ∧ W.cell? (x.add (i * 4 + 2)) = some (.int .i64 q.b) ∧ W.cell? (x.add (i * 4 + 3)) = some (.int .i64 q.v) ∧ (-9223372036854775808 ≤ q.v ∧ q.v ≤ 9223372036854775807) := by
      intro i
      by_cases hi : i < len
      · obtain ⟨q, hq⟩ := hv i hi
        exact ⟨q, fun _ => hq⟩
      · exact ⟨⟨0, 0, 0, 0⟩, fun e => absurd e hi⟩
    obtain ⟨Q, hQ⟩ : ∃ Q : Nat → Act4, ∀ i, i < len → W.cell? (x.add (i * 4)) = some (.int .i64 (Q i).k) ∧ W.cell? (x.add (i * 4 + 1)) = some (.int .i64 (Q i).a) ∧ W.cell? (x.add (i * 4 + 2)) = some (.int .i64 (Q i).b) ∧ W.cell? (x.add (i * 4 + 3)) = some (.int .i64 (Q i).v) ∧ (-9223372036854775808 ≤ (Q i).v ∧ (Q i).v ≤ 9223372036854775807) := ⟨fun i => (hv2 i).choose, fun i => (hv2 i).choose_spec⟩
    refine ⟨(List.range len).map Q, by simp, hl, ⟨by simp, by simp [maxLen] at *; omega, fun q hq => ?_, fun a' ha j q hj => ?_⟩⟩
    · obtain ⟨i, hi, rfl⟩ := List.mem_map.1 hq
      exact (hQ i (List.mem_range.1 hi)).2.2.2.2
    cases ha
    have hjl : j < len := by have := (List.getElem?_eq_some_iff.1 hj).1; simpa using this
    simp [hjl] at hj
    rw [← hj]
    exact ⟨(hQ j hjl).1, (hQ j hjl).2.1, (hQ j hjl).2.2.1, (hQ j hjl).2.2.2.1⟩

open Go.WideMaps in
theorem open_triple {H : Type} {enc : TypeId × Value → H} {P : Program} {k e : TypeId} {W : World} (A : ArrKey P k e 3) (he : P.underlying e = some (.int .i64)) {r : Reach} {b0 : Nat} {v : Value} {d : DataW H} {ps : List MemPlace} (hval : Value.okWide P W r b0 k v) (hd : DataW.Trod enc P W 0 (fun _ => true) true k v d ps) :
    ∃ a b c : Int, v = .agg #[.int .i64 a, .int .i64 b, .int .i64 c] := by
  obtain ⟨c0, c1, c2, rfl⟩ : ∃ c0 c1 c2, v = .agg #[c0, c1, c2] := by
    simp only [Value.okWide, A.hu] at hval
    obtain ⟨cs, h1, h2, _⟩ := hval
    rw [A.size] at h2
    obtain ⟨l⟩ := cs
    match l, h2 with
    | [c0, c1, c2], _ => exact ⟨c0, c1, c2, h1⟩
  obtain ⟨fuel, hf⟩ := hd
  cases fuel with
  | zero => simp [DataW.trod] at hf
  | succ n =>
    rw [DataW.trod_step] at hf
    unfold DataW.trodStep at hf
    simp only [A.hu, Value.cells] at hf
    rw [if_pos (by rw [A.size]; rfl)] at hf
    simp only [Option.map_eq_some_iff] at hf
    obtain ⟨xs, hx, _⟩ := hf
    rw [show List.range 3 = [0, 1, 2] from rfl, List.mapM_cons, List.mapM_cons, List.mapM_cons, List.mapM_nil] at hx
    simp only [bind, Option.bind_eq_some_iff, pure, Option.some.injEq, A.one] at hx
    obtain ⟨y0, h0, _, ⟨y1, h1, _, ⟨y2, h2, _, _, _⟩, _⟩, _⟩ := hx
    obtain ⟨a, ea, _, _⟩ := DataW.trod_int he h0
    obtain ⟨b, eb, _, _⟩ := DataW.trod_int he h1
    obtain ⟨c, ec, _, _⟩ := DataW.trod_int he h2
    simp at ea eb ec
    subst ea; subst eb; subst ec
    exact ⟨a, b, c, rfl⟩

end Go.Proofs.YtdmkbcbgjdmgdaaGreatDoor

namespace Go.Proofs.YtdmkbcbgjdmgdaaGreatDoor
open Go.RowKit
set_option linter.unusedVariables false

theorem mod_inN (z : Int) (C : Nat) (h1 : 1 ≤ C) (h2 : C ≤ 1048576) : ∃ a : Nat, wrap64 ((IntKind.u64.wrap z).tmod (C : Int)) = (a : Int) ∧ a < C := by
  have e : (IntKind.u64.wrap z).tmod (C : Int) = z % 18446744073709551616 % (C : Int) := by
    rw [IntKind.wrap_u64, Int.tmod_eq_emod_of_nonneg (by omega)]
  have g1 : 0 ≤ z % 18446744073709551616 % (C : Int) := Int.emod_nonneg _ (by omega)
  have g2 : z % 18446744073709551616 % (C : Int) < C := Int.emod_lt_of_pos _ (by omega)
  rw [e]
  generalize z % 18446744073709551616 % (C : Int) = r at g1 g2
  refine ⟨r.toNat, ?_, by omega⟩
  rw [IntWalk.wrap64_in r ⟨by omega, by omega⟩]
  omega

theorem mod_up (n M : Int) (h1 : 1 ≤ M) (h2 : M ≤ 1000000) : ∃ K : Nat, wrap64 (1 + wrap64 ((IntKind.u64.wrap n).tmod M)) = (K : Int) ∧ 1 ≤ K ∧ (K : Int) ≤ M := by
  have e : (IntKind.u64.wrap n).tmod M = n % 18446744073709551616 % M := by
    rw [IntKind.wrap_u64, Int.tmod_eq_emod_of_nonneg (by omega)]
  have g1 : 0 ≤ n % 18446744073709551616 % M := Int.emod_nonneg _ (by omega)
  have g2 : n % 18446744073709551616 % M < M := Int.emod_lt_of_pos _ (by omega)
  rw [e]
  generalize n % 18446744073709551616 % M = r at g1 g2
  refine ⟨(1 + r).toNat, ?_, by omega, by omega⟩
  have w1 : wrap64 r = r := IntWalk.wrap64_in r ⟨by omega, by omega⟩
  have w2 : wrap64 (1 + r) = 1 + r := IntWalk.wrap64_in _ ⟨by omega, by omega⟩
  rw [w1, w2]
  omega

section
variable {N n lo fb : Nat} {w wr : World} {T : Tb} {v : Nat → Int} {sub seq : Nat → List Nat}

theorem Gd.mem_le (h : Gd N T v sub seq) (hN : N ≤ n + 1) {x y : Nat} (hx : x ≠ 0) (hxn : x ≤ n) (hy : y ∈ seq x) : y ≤ n := by
  obtain ⟨r, h1, h2, h3, h4, _⟩ := h.inv.top h.len (N + 1) x (by omega) hx
  rw [h3] at hy
  have lt : ∀ z, z ∈ sub r → z ≠ r → z < N := fun z hz hne => h.lt (h.inv.sub_up h1 hz hne)
  by_cases e : y = r
  · by_cases e2 : x = r
    · omega
    · rcases Nat.lt_or_ge r N with h5 | h5
      · omega
      · have := h.inv.eqn r h1 false
        have hz := h.zero r h5
        rw [hz] at this
        have e3 : sub r = [r] := by
          rw [this]
          show flp false (cat false (sub 0) r (sub 0)) = _
          rw [h.inv.sub0]
          rfl
        rw [e3] at h4
        exact absurd (List.mem_singleton.1 h4) e2
  · have := lt y hy e; omega

/-- What a Forest's sequences are like. -/
structure Part (n : Nat) (seq : Nat → List Nat) : Prop where
  self : ∀ x, x ≠ 0 → x ∈ seq x
  mem : ∀ x y, x ≠ 0 → y ∈ seq x → seq y = seq x ∧ y ≠ 0
  nd : ∀ x, x ≠ 0 → (seq x).Nodup
  le : ∀ x y, x ≠ 0 → x ≤ n → y ∈ seq x → y ≤ n
  len : ∀ x, x ≠ 0 → (seq x).length ≤ 8388610

theorem FS.part (h : FS lo w fb n v seq wr) : Part n seq := by
  obtain ⟨nb, N, T, sub, _, hg, hN, _⟩ := h.st
  exact ⟨fun x hx => hg.self hx, fun x y hx hy => hg.mem_seq hx hy, fun x hx => hg.seq_nd hx, fun x y hx hxn hy => hg.mem_le hN hx hxn hy, fun x hx => by have := hg.seq_len hx; have := hg.big; omega⟩

/-- Joined, or not: a Forest it is. -/
theorem FS.joinAny (h : FS lo w fb n v seq wr) (x y : Nat) (hx : x < n) (hy : y < n) :
    Calls Tryz.prog 89 #[.pointer (some ⟨fb, 0, none⟩), .int .i64 (x : Int), .int .i64 (y : Int)] wr fun e w' => ∃ u, e = .returned u ∧ (∃ seq', FS lo w fb n v seq' w') ∧ Keep wr w' := by
  by_cases e : seq (x + 1) = seq (y + 1)
  · refine (h.join_same x y hx hy e).mono ?_
    rintro e w' ⟨rfl, h1, k1⟩
    exact ⟨_, rfl, ⟨_, h1⟩, k1⟩
  · refine (h.join x y hx hy e).mono ?_
    rintro e w' ⟨rfl, h1, k1⟩
    exact ⟨_, rfl, ⟨_, h1⟩, k1⟩



theorem FS.cutAny (h : FS lo w fb n v seq wr) (x : Nat) (hx : x < n) :
    Calls Tryz.prog 85 #[.pointer (some ⟨fb, 0, none⟩), .int .i64 (x : Int)] wr fun e w' => ∃ b, e = .returned (.tuple #[.bool b, .nilIface]) ∧ (∃ seq', FS lo w fb n v seq' w') ∧ Keep wr w' := by
  refine (h.cut x hx).mono ?_
  rintro e w' ⟨A, B, _, rfl, h1, k1⟩
  exact ⟨_, rfl, ⟨_, h1⟩, k1⟩
end

theorem revS_self {n : Nat} {seq : Nat → List Nat} (h : Part n seq) {x : Nat} (hx : x ≠ 0) : revS seq x x = (seq x).reverse := by
  unfold revS; rw [if_pos (h.self x hx)]

theorem Rw.keeps {w w' : World} {u : Value} {l : List Nat} (h : Rw w u l) (k : Keep w w') : Rw w' u l := h.keep k

end Go.Proofs.YtdmkbcbgjdmgdaaGreatDoor

namespace Go.Proofs.YtdmkbcbgjdmgdaaGreatDoor
open Go.RowKit
set_option linter.unusedVariables false

/-- The list from x on, and round. -/
def rot (l : List Nat) (x : Nat) : List Nat := l.dropWhile (fun y => y != x) ++ l.takeWhile (fun y => y != x)

theorem until_split {A B : List Nat} {x : Nat} (h : x ∉ A) : (A ++ x :: B).takeWhile (fun y => y != x) = A ∧ (A ++ x :: B).dropWhile (fun y => y != x) = x :: B := by
  have hp : ∀ a ∈ A, (fun y => y != x) a = true := fun a ha => by simp; exact fun e => h (e ▸ ha)
  rw [List.takeWhile_append_of_pos hp, List.dropWhile_append_of_pos hp]
  simp

theorem rot_split {A B : List Nat} {x : Nat} (h : x ∉ A) : rot (A ++ x :: B) x = x :: (B ++ A) := by
  unfold rot
  rw [(until_split h).1, (until_split h).2]
  rfl

theorem rot_mem {l : List Nat} {x y : Nat} : y ∈ rot l x ↔ y ∈ l := by
  unfold rot
  rw [List.mem_append, or_comm, ← List.mem_append, List.takeWhile_append_dropWhile]

theorem rot_len (l : List Nat) (x : Nat) : (rot l x).length = l.length := by
  unfold rot
  rw [List.length_append, Nat.add_comm, ← List.length_append, List.takeWhile_append_dropWhile]

theorem rot_nd {l : List Nat} {x : Nat} (h : l.Nodup) : (rot l x).Nodup := by
  have hp : (rot l x).Perm l := by
    unfold rot
    refine List.perm_append_comm.trans ?_
    rw [List.takeWhile_append_dropWhile]
  exact hp.nodup_iff.2 h

theorem rot_head {l : List Nat} {x : Nat} (h : x ∈ l) : ∃ T, rot l x = x :: T := by
  obtain ⟨A, B, rfl, hA⟩ := List.eq_append_cons_of_mem h
  exact ⟨_, rot_split hA⟩

theorem rot_at {l : List Nat} {x i : Nat} (hn : l.Nodup) (hi : l[i]? = some x) : rot l x = l.drop i ++ l.take i := by
  obtain ⟨hlt, hx⟩ := List.getElem?_eq_some_iff.1 hi
  have e : l = l.take i ++ x :: l.drop (i + 1) := by
    rw [← hx, ← List.drop_eq_getElem_cons hlt, List.take_append_drop]
  have hA : x ∉ l.take i := fun hm => by
    rw [e, List.nodup_append] at hn
    exact hn.2.2 x hm x List.mem_cons_self rfl
  have := rot_split (B := l.drop (i + 1)) hA
  rw [← e] at this
  rw [this, List.drop_eq_getElem_cons hlt, hx]
  rfl

theorem rot_get {l : List Nat} {x i j : Nat} (hn : l.Nodup) (hi : l[i]? = some x) (hj : j < l.length) : (rot l x)[j]? = l[(i + j) % l.length]? := by
  have hlt := (List.getElem?_eq_some_iff.1 hi).1
  rw [rot_at hn hi, List.getElem?_append, List.length_drop]
  split
  · rw [List.getElem?_drop, Nat.mod_eq_of_lt (by omega)]
  · rw [List.getElem?_take, if_pos (by omega), Nat.mod_eq_sub_mod (by omega), Nat.mod_eq_of_lt (by omega)]
    congr 1; omega

theorem rot_self {l : List Nat} {x : Nat} {T : List Nat} (h : l = x :: T) : rot l x = l := by
  rw [h]
  have := rot_split (A := []) (B := T) (x := x) (by simp)
  simpa using this

theorem rot_rot {l : List Nat} {x y : Nat} (hn : l.Nodup) (hx : x ∈ l) (hy : y ∈ l) : rot (rot l x) y = rot l y := by
  obtain ⟨i, hi⟩ := List.getElem?_of_mem hx
  obtain ⟨p, hp⟩ := List.getElem?_of_mem (rot_mem (x := x).2 hy)
  have hil := (List.getElem?_eq_some_iff.1 hi).1
  have hpl := (List.getElem?_eq_some_iff.1 hp).1
  rw [rot_len] at hpl
  have hq := hp
  rw [rot_get hn hi hpl] at hq
  apply List.ext_getElem?
  intro j
  by_cases hj : j < l.length
  · rw [rot_get (rot_nd hn) hp (by rw [rot_len]; exact hj), rot_len, rot_get hn hi (Nat.mod_lt _ (by omega)), rot_get hn hq hj]
    congr 1
    rw [Nat.add_mod_mod, Nat.mod_add_mod, Nat.add_assoc]
  · rw [List.getElem?_eq_none (by rw [rot_len, rot_len]; omega), List.getElem?_eq_none (by rw [rot_len]; omega)]

/-- The sequences when one begins with x. -/
def turnS (seq : Nat → List Nat) (x : Nat) : Nat → List Nat := fun y => if y ∈ seq x then rot (seq x) x else seq y

/-- When a cycle is split: from x on up to y, and from y on. -/
def splS (seq : Nat → List Nat) (x y : Nat) : Nat → List Nat := cutS seq ((rot (seq x) x).takeWhile (fun z => z != y)) y ((rot (seq x) x).dropWhile (fun z => z != y)).tail

/-- When two are merged. -/
def mrgS (seq : Nat → List Nat) (x y : Nat) : Nat → List Nat := fun z => if z ∈ seq x ∨ z ∈ seq y then rot (seq x) x ++ rot (seq y) y else seq z

section
variable {n : Nat} {seq : Nat → List Nat}

theorem Part.other (h : Part n seq) {x y : Nat} (hx : x ≠ 0) (hy : y ≠ 0) (hne : seq x ≠ seq y) : y ∉ seq x := fun hm => hne (h.mem x y hx hm).1.symm

theorem Part.one (h : Part n seq) {x y : Nat} (hx : x ≠ 0) (hy : y ≠ 0) : seq x = seq y ↔ y ∈ seq x := ⟨fun e => by rw [e]; exact h.self y hy, fun hm => (h.mem x y hx hm).1.symm⟩

theorem splS_of {x y : Nat} {P Q : List Nat} (e : rot (seq x) x = P ++ y :: Q) (hP : y ∉ P) : splS seq x y = cutS seq P y Q := by
  unfold splS
  rw [e, (until_split hP).1, (until_split hP).2]
  rfl

theorem turnS_self (h : Part n seq) {x : Nat} (hx : x ≠ 0) : turnS seq x x = rot (seq x) x := by
  unfold turnS; rw [if_pos (h.self x hx)]

theorem turnS_in {x y : Nat} (hy : y ∈ seq x) : turnS seq x y = rot (seq x) x := by
  unfold turnS; rw [if_pos hy]

theorem turnS_out {x y : Nat} (hy : y ∉ seq x) : turnS seq x y = seq y := by
  unfold turnS; rw [if_neg hy]

/-- It begins with x already. -/
theorem turnS_at (h : Part n seq) {x : Nat} {B : List Nat} (hx : x ≠ 0) (e : seq x = x :: B) : turnS seq x = seq := by
  funext y
  by_cases hy : y ∈ seq x
  · rw [turnS_in hy, rot_self e, (h.mem x y hx hy).1]
  · rw [turnS_out hy]

theorem cutS_nil2 (h : Part n seq) {x : Nat} {B : List Nat} (hx : x ≠ 0) (e : seq x = x :: B) : cutS seq [] x B = seq := by
  funext y
  unfold cutS
  rw [if_neg (by simp)]
  split
  · next hm => rw [← e] at hm ⊢; exact (h.mem x y hx hm).1.symm
  · rfl

/-- Cut ahead of x, and what stood there joined behind. -/
theorem turnS_cut (h : Part n seq) {x f : Nat} {A B : List Nat} (hx : x ≠ 0) (e : seq x = A ++ x :: B) (hf : f ∈ A) : joinS (cutS seq A x B) x f = turnS seq x ∧ cutS seq A x B x ≠ cutS seq A x B f := by
  have hn := h.nd x hx
  rw [e, List.nodup_append] at hn
  have hA : x ∉ A := fun hm => hn.2.2 x hm x List.mem_cons_self rfl
  have e1 : cutS seq A x B x = x :: B := by unfold cutS; rw [if_neg hA, if_pos List.mem_cons_self]
  have e2 : cutS seq A x B f = A := by unfold cutS; rw [if_pos hf]
  refine ⟨?_, ?_⟩
  · funext y
    unfold joinS
    rw [e1, e2]
    have hm : (y ∈ x :: B ∨ y ∈ A) ↔ y ∈ seq x := by rw [e, List.mem_append, or_comm]
    by_cases hy : y ∈ seq x
    · rw [if_pos (hm.2 hy), turnS_in hy, e, rot_split hA]; rfl
    · have hy' := fun c => hy (hm.1 c)
      rw [if_neg hy', turnS_out hy]
      unfold cutS
      rw [if_neg (fun c => hy' (Or.inr c)), if_neg (fun c => hy' (Or.inl c))]
  · rw [e1, e2]
    intro c
    exact hA (c ▸ List.mem_cons_self)

theorem split_is (h : Part n seq) {x y : Nat} {P Q : List Nat} (hx : x ≠ 0) (e : rot (seq x) x = P ++ y :: Q) : cutS (turnS seq x) P y Q = splS seq x y := by
  have hn := rot_nd (x := x) (h.nd x hx)
  rw [e, List.nodup_append] at hn
  have hP : y ∉ P := fun hm => hn.2.2 y hm y List.mem_cons_self rfl
  rw [splS_of e hP]
  funext z
  unfold cutS
  by_cases h1 : z ∈ P
  · rw [if_pos h1, if_pos h1]
  · rw [if_neg h1, if_neg h1]
    by_cases h2 : z ∈ y :: Q
    · rw [if_pos h2, if_pos h2]
    · rw [if_neg h2, if_neg h2, turnS_out]
      intro hm
      have := rot_mem (x := x).2 hm
      rw [e, List.mem_append] at this
      exact this.elim h1 h2

theorem merge_is (h : Part n seq) {x y : Nat} (hx : x ≠ 0) (hy : y ≠ 0) (hne : seq x ≠ seq y) : joinS (turnS (turnS seq x) y) x y = mrgS seq x y ∧ turnS (turnS seq x) y x ≠ turnS (turnS seq x) y y := by
  have hyx : y ∉ seq x := h.other hx hy hne
  have hxy : x ∉ seq y := h.other hy hx (Ne.symm hne)
  have e0 : turnS seq x y = seq y := turnS_out hyx
  have e1 : turnS (turnS seq x) y y = rot (seq y) y := by rw [turnS_in (by rw [e0]; exact h.self y hy), e0]
  have e2 : turnS (turnS seq x) y x = rot (seq x) x := by rw [turnS_out (by rw [e0]; exact hxy), turnS_self h hx]
  refine ⟨?_, ?_⟩
  · funext z
    unfold joinS mrgS
    rw [e1, e2]
    by_cases hz : z ∈ seq x ∨ z ∈ seq y
    · rw [if_pos hz, if_pos (hz.imp rot_mem.2 rot_mem.2)]
    · rw [if_neg hz, if_neg (fun c => hz (c.imp rot_mem.1 rot_mem.1)), turnS_out (by rw [e0]; exact fun c => hz (Or.inr c)), turnS_out (fun c => hz (Or.inl c))]
  · rw [e1, e2]
    intro c
    have : x ∈ rot (seq x) x := rot_mem.2 (h.self x hx)
    rw [c] at this
    exact hxy (rot_mem.1 this)

theorem splS_first (h : Part n seq) {x y : Nat} {P Q : List Nat} (hx : x ≠ 0) (e : rot (seq x) x = P ++ y :: Q) (z : Nat) (hz : z ∈ P) : splS seq x y z = P := by
  have hn := rot_nd (x := x) (h.nd x hx)
  rw [e, List.nodup_append] at hn
  rw [splS_of e (fun hm => hn.2.2 y hm y List.mem_cons_self rfl)]
  unfold cutS
  rw [if_pos hz]

theorem splS_second (h : Part n seq) {x y : Nat} {P Q : List Nat} (hx : x ≠ 0) (e : rot (seq x) x = P ++ y :: Q) (z : Nat) (hz : z ∈ y :: Q) : splS seq x y z = y :: Q := by
  have hn := rot_nd (x := x) (h.nd x hx)
  rw [e, List.nodup_append] at hn
  rw [splS_of e (fun hm => hn.2.2 y hm y List.mem_cons_self rfl)]
  unfold cutS
  rw [if_neg (fun hm => hn.2.2 z hm z hz rfl), if_pos hz]

/-- What the second of two items splits. -/
theorem rot_parts (h : Part n seq) {x y : Nat} (hx : x ≠ 0) (hne : x ≠ y) (hy : y ∈ seq x) : ∃ P Q, rot (seq x) x = x :: P ++ y :: Q ∧ y ∉ x :: P := by
  obtain ⟨A, B, e, hA⟩ := List.eq_append_cons_of_mem (rot_mem (x := x).2 hy)
  obtain ⟨T, hT⟩ := rot_head (h.self x hx)
  cases A with
  | nil => rw [e] at hT; injection hT with hT _; exact absurd hT.symm hne
  | cons a A =>
    have : a = x := by rw [e] at hT; injection hT
    subst this
    exact ⟨A, B, e, hA⟩
end

end Go.Proofs.YtdmkbcbgjdmgdaaGreatDoor

namespace Go.Proofs.YtdmkbcbgjdmgdaaGreatDoor
open Go.RowKit
set_option linter.unusedVariables false

/-- The closure's variables: the Forest, and how many are still to be passed over. -/
def FBox (w : World) (b fb : Nat) : Prop := w.heap[b]? = some (.cells #[.pointer (some ⟨fb, 0, none⟩)] 94 (0, 0))
def IBox (w : World) (b : Nat) (z : Int) : Prop := w.heap[b]? = some (.cells #[.int .i64 z] 3 (0, 0))

theorem FBox.keep {w w' : World} {b fb : Nat} (h : FBox w b fb) (k : Keep w w') : FBox w' b fb := k b _ _ _ h (by decide) (by decide)
theorem IBox.keep {w w' : World} {b : Nat} {z : Int} (h : IBox w b z) (k : Keep w w') : IBox w' b z := k b _ _ _ h (by decide) (by decide)
theorem FBox.cell {w : World} {b fb : Nat} (h : FBox w b fb) : w.cell? ⟨b, 0, none⟩ = some (.pointer (some ⟨fb, 0, none⟩)) := by unfold World.cell?; rw [h]; simp
theorem IBox.cell {w : World} {b : Nat} {z : Int} (h : IBox w b z) : w.cell? ⟨b, 0, none⟩ = some (.int .i64 z) := by unfold World.cell?; rw [h]; simp
theorem IBox.fro {w : World} {b : Nat} {z : Int} (h : IBox w b z) : w.frozen? ⟨b, 0, none⟩ = false := by unfold World.frozen?; rw [h]; simp

section
variable {lo fb n nb N : Nat} {w w0 wr : World} {T : Tb} {v : Nat → Int} {sub seq : Nat → List Nat}

theorem HS.setI (h : HS lo w w0 fb n nb N T v sub seq wr) {b : Nat} {z : Int} (hb : IBox wr b z) (h0 : w0.heap.size ≤ b) (hlo : lo ≤ b) (z' : Int) : HS lo w w0 fb n nb N T v sub seq (wr.setCell ⟨b, 0, none⟩ (.int .i64 z')) ∧ IBox (wr.setCell ⟨b, 0, none⟩ (.int .i64 z')) b z' ∧ (∀ k fb', FBox wr k fb' → FBox (wr.setCell ⟨b, 0, none⟩ (.int .i64 z')) k fb') := by
  have ht : Turned (fun k => k = b) wr (wr.setCell ⟨b, 0, none⟩ (.int .i64 z')) := (Turned.refl (fun k => k = b) wr).setCell (p := ⟨b, 0, none⟩) rfl _
  have nf : fb ≠ b := fun e => by
    have := h.fo.self
    rw [e, hb] at this
    injection this with this; injection this with _ this; exact absurd this (by decide)
  have nn : nb ≠ b := fun e => by
    have := h.fo.nodes
    rw [e, hb] at this
    injection this with this; injection this with _ this; exact absurd this (by decide)
  refine ⟨⟨h.fo.of ht nf nn, h.gd, h.hN, h.nlo, h.flo, h.below.trans (ht.below (fun j hj => by rw [hj]; exact hlo) (Nat.le_trans h.lw h.below.size)), h.n1, h.n2, h.lw, fun k cs t fr hk h1 h2 => ?_⟩, ?_, fun k fb' hk => ?_⟩
  · have h3 := h.keep k cs t fr hk h1 h2
    have := (Array.getElem?_eq_some_iff.1 hk).1
    rw [Below.heap_setCell _ _ _ _ (by simp; omega)]
    exact h3
  · unfold IBox World.setCell
    rw [Array.getElem?_modify, if_pos rfl, hb]
    simp
  · unfold FBox
    rw [Below.heap_setCell _ _ _ _ (fun e => by
      have e : k = b := e
      have hk' : wr.heap[k]? = _ := hk
      rw [e, hb] at hk'
      injection hk' with hk'; injection hk' with _ hk'; exact absurd hk' (by decide))]
    exact hk

set_option maxRecDepth 100000 in
set_option maxHeartbeats 1000000 in
/-- The closure, one of three ways. -/
theorem at1_ok (h : HS lo w w0 fb n nb N T v sub seq wr) (x bf bl : Nat) (hx : x < N) (d m : Nat) (hf : FBox wr bf fb) (hl : IBox wr bl (d : Int)) (hm : (sub (T x).l).length = m) (hd : d ≤ 8388700) (h0 : w0.heap.size ≤ bl) (hlo : lo ≤ bl) :
    Calls Tryz.prog 130 #[.int .i32 (x : Int), .pointer (some ⟨bf, 0, none⟩), .pointer (some ⟨bl, 0, none⟩)] wr fun e w' => ∃ (c : Int) (d' : Nat), e = .returned (.int .i64 c) ∧ HS lo w w0 fb n nb N T v sub seq w' ∧ FBox w' bf fb ∧ IBox w' bl (d' : Int) ∧ ((d < m ∧ c = 0 ∧ d' = d) ∨ (d = m ∧ c = 2 ∧ d' = d) ∨ (m < d ∧ c = 1 ∧ d' = d - (m + 1))) := by
  have hml := h.gd.len (T x).l
  have hbig := h.fo.big
  rw [hm] at hml
  have hc := hf.cell
  have hcl := hl.cell
  have hfr := hl.fro
  have hle := leads_ok fb nb n N x T v sub seq wr h.fo h.gd hx
  rw [hm] at hle
  have hle := hid hle
  have hS := hid (h.setI hl h0 hlo ((d : Int) - ((m : Int) + 1)))
  have h := hid h
  have hf := hid hf
  have hl := hid hl
  clear hm
  rcases Nat.lt_trichotomy d m with hlt | rfl | hgt
  · have t1 : decide ((d : Int) < (m : Int)) = true := decide_eq_true (by omega)
    go_enter Tryz.func130, Tryz.ntmps130
    go_wp2_with fail
    refine hle.out.mono ?_
    rintro e w' ⟨rfl, rfl⟩
    go_wp2_with fail
    go_ret
    exact ⟨0, d, rfl, h.out, hf.out, hl.out, Or.inl ⟨hlt, rfl, rfl⟩⟩
  · have t1 : decide ((d : Int) < (d : Int)) = false := decide_eq_false (by omega)
    go_enter Tryz.func130, Tryz.ntmps130
    go_wp2_with fail
    refine hle.out.mono ?_
    rintro e w' ⟨rfl, rfl⟩
    go_wp2_with fail
    go_ret
    exact ⟨2, d, rfl, h.out, hf.out, hl.out, Or.inr (Or.inl (by simp))⟩
  · have t1 : decide ((d : Int) < (m : Int)) = false := decide_eq_false (by omega)
    have t2 : ((d : Int) == (m : Int)) = false := by rw [beq_eq_false_iff_ne]; omega
    go_enter Tryz.func130, Tryz.ntmps130
    go_wp2_with fail
    refine hle.out.mono ?_
    rintro e w' ⟨rfl, rfl⟩
    go_wp2_with fail
    go_ret
    refine ⟨1, d - (m + 1), rfl, hS.out.1, hS.out.2.2 _ _ hf.out, ?_, Or.inr (Or.inr ⟨hgt, rfl, rfl⟩)⟩
    have := hS.out.2.1
    rw [show (d : Int) - ((m : Int) + 1) = ((d - (m + 1) : Nat) : Int) from by omega] at this
    rw [show (d : Int) - ((m : Int) + 1) = ((d - (m + 1) : Nat) : Int) from by omega]
    exact this

/-- The k-th one of a sequence is found, and brought to the top. -/
theorem HS.kth (h : HS lo w w0 fb n nb N T v sub seq wr) (x bf bl k : Nat) (hx0 : x ≠ 0) (hx : x < N) (hu : (T x).up = 0) (hk : k < (seq x).length) (hf : FBox wr bf fb) (hl : IBox wr bl (k : Int)) (h0 : w0.heap.size ≤ bl) (hlo : lo ≤ bl) :
    Calls Tryz.prog 116 #[.pointer (some ⟨fb, 0, none⟩), .int .i32 (x : Int), .func (.func 130) #[] #[.pointer (some ⟨bf, 0, none⟩), .pointer (some ⟨bl, 0, none⟩)]] wr fun e w' => ∃ (p : Nat) (T' : Tb) (sub' : Nat → List Nat), e = .returned (.int .i32 (p : Int)) ∧ p ≠ 0 ∧ p < N ∧ HS lo w w0 fb n nb N T' v sub' seq w' ∧ (seq x)[k]? = some p := by
  have hr := h.gd.inv.root x hx0 hu
  have hkl : k ≤ 8388700 := by have := h.gd.seq_len hx0; have := h.fo.big; omega
  refine (seek_at (.pointer (some ⟨bf, 0, none⟩)) (.pointer (some ⟨bl, 0, none⟩)) fb nb n N v seq lo w w0 (fun T sub y _ => ∃ A B, seq x = A ++ y :: B ∧ A.length = k) x wr
    (descend_at (.pointer (some ⟨bf, 0, none⟩)) (.pointer (some ⟨bl, 0, none⟩)) fb nb n N v seq lo w w0 (fun T sub y wy => FBox wy bf fb ∧ ∃ pre post, seq x = pre ++ sub y ++ post ∧ pre.length ≤ k ∧ k < pre.length + (sub y).length ∧ IBox wy bl ((k - pre.length : Nat) : Int)) _ ?_ ?_ x T sub wr h hx0 hx ⟨hf, [], [], by rw [hr]; simp, by simp, by rw [hr] at hk; simpa using hk, by simpa using hl⟩)).mono ?_
  · rintro T1 sub1 T2 sub2 y y1 y2 h1 ⟨f1, pre, post, e1, e2, e3, i1⟩ hy m s t h2
    have kk := Keep.ofNodes h1.fo t
    have es := s.self h1.gd.inv hy
    exact ⟨f1.keep kk, pre, post, by rw [es]; exact e1, e2, by rw [es]; exact e3, i1.keep kk⟩
  · rintro T1 sub1 y y1 h1 ⟨f1, pre, post, e1, e2, e3, i1⟩ hy hyN ht
    have ef := h1.gd.inv.flat hy ht
    have el : (T1 y).k false = (T1 y).l := rfl
    have er : (T1 y).k true = (T1 y).r := rfl
    refine (at1_ok h1 y bf bl hyN (k - pre.length) _ f1 i1 rfl (by omega) h0 hlo).mono ?_
    rintro e y2 ⟨c, d', rfl, h2, f2, i2, hc⟩
    rw [el, er] at ef
    have hlen : (sub1 y).length = (sub1 (T1 y).l).length + 1 + (sub1 (T1 y).r).length := by rw [ef]; simp; omega
    refine ⟨c, rfl, h2, ?_⟩
    rcases hc with ⟨g1, rfl, rfl⟩ | ⟨g1, rfl, rfl⟩ | ⟨g1, rfl, rfl⟩
    · refine Or.inr ⟨false, rfl, fun hz => ?_, fun hz => ⟨f2, pre, y :: sub1 (T1 y).r ++ post, ?_, e2, ?_, i2⟩⟩
      · rw [el] at hz; rw [hz, h1.gd.inv.sub0] at g1; simp at g1
      · rw [e1, ef, el]; simp
      · rw [el]; omega
    · exact Or.inl ⟨rfl, pre ++ sub1 (T1 y).l, sub1 (T1 y).r ++ post, by rw [e1, ef]; simp, by simp; omega⟩
    · refine Or.inr ⟨true, rfl, fun hz => ?_, fun hz => ⟨f2, pre ++ sub1 (T1 y).l ++ [y], post, ?_, ?_, ?_, ?_⟩⟩
      · rw [er] at hz; rw [hz, h1.gd.inv.sub0] at hlen; simp at hlen; omega
      · rw [e1, ef, er]; simp
      · simp; omega
      · rw [er]; simp; omega
      · have : k - (pre ++ sub1 (T1 y).l ++ [y]).length = k - pre.length - ((sub1 (T1 y).l).length + 1) := by simp; omega
        rw [this]; exact i2
  · rintro e w' ⟨p, T', sub', rfl, hp0, hp, h', u', t', _, _, _, A, B, hA, hk'⟩
    refine ⟨p, T', sub', rfl, hp0, hp, h', ?_⟩
    rw [hA, List.getElem?_append_right (by omega), hk']
    simp

set_option maxRecDepth 100000 in
set_option maxHeartbeats 2000000 in
theorem FS.at (h : FS lo w fb n v seq w0) (x k : Nat) (hx : x < n) (hk : k < (seq (x + 1)).length) :
    Calls Tryz.prog 112 #[.pointer (some ⟨fb, 0, none⟩), .int .i64 (x : Int), .int .i64 (k : Int)] w0 fun e w' => ∃ d : Nat, (seq (x + 1))[k]? = some (d + 1) ∧ e = .returned (.tuple #[.int .i64 (d : Int), .nilIface]) ∧ FS lo w fb n v seq w' ∧ Keep w0 w' := by
  have hs := hid ((h.alloc (.cells #[.pointer (some ⟨fb, 0, none⟩)] 94)).sizeH x hx)
  have hb0 : Hid (FBox (w0.alloc (.cells #[.pointer (some ⟨fb, 0, none⟩)] 94)) w0.heap.size fb) := hid (heap_alloc_new w0 _)
  have hc0 := hb0.out.cell
  have kb := hid ((Keep.refl w0).alloc (.cells #[.pointer (some ⟨fb, 0, none⟩)] 94))
  obtain ⟨M, hM⟩ : ∃ M, (seq (x + 1)).length = M := ⟨_, rfl⟩
  rw [hM] at hs hk
  have hMh := hid hM
  have hpl : M ≤ 8388610 := by
    obtain ⟨nb, N, T, sub, _, hg, hN, _⟩ := h.st
    have := hg.seq_len (x := x + 1) (by omega)
    have := hg.big
    omega
  have t1 : decide ((k : Int) < 0) = false := decide_eq_false (by omega)
  have t2 : decide ((M : Int) ≤ (k : Int)) = false := decide_eq_false (by omega)
  clear h hM
  go_enter Tryz.func112, Tryz.ntmps112
  go_wp2_with fail
  refine hs.out.mono ?_
  rintro e w1 ⟨rfl, nb, N, T, sub, h1, hxN⟩
  have hb1 := hid (hb0.out.keep h1.keep)
  have hc1 := hb1.out.cell
  have k1 := hid (kb.out.trans h1.keep)
  have hszlo := Nat.le_trans h1.lw h1.below.size
  have h2 := hid (h1.re.alloc (.cells #[.int .i64 (k : Int)] 3))
  have hb2 := hid (hb1.out.keep ((Keep.refl w1).alloc (.cells #[.int .i64 (k : Int)] 3)))
  have hi2 : Hid (IBox (w1.alloc (.cells #[.int .i64 (k : Int)] 3)) w1.heap.size (k : Int)) := hid (heap_alloc_new w1 _)
  clear hs hb0 hc0 h1
  go_wp2_with fail
  have hsz : w1.heap.size ≤ w1.heap.size := Nat.le_refl _
  generalize hbl : w1.heap.size = bl at hi2 hsz hszlo ⊢
  generalize w1.alloc (.cells #[.int .i64 (k : Int)] 3) = w2 at h2 hb2 hi2 ⊢
  obtain ⟨X, hX⟩ : ∃ X, x + 1 = X := ⟨_, rfl⟩
  have hXh := hid hX
  have hX0 : X ≠ 0 := by omega
  have htop := hid (h2.out.drew.re.top x hxN)
  rw [hX] at htop hMh hxN
  obtain ⟨bf, hbf⟩ : ∃ bf, w0.heap.size = bf := ⟨_, rfl⟩
  rw [hbf] at hb1 hb2 hc1
  rw [hbf]
  have hcw := hb2.out.cell
  clear hX hbf hc1
  go_region_held3 (fun w' => w'.cell? ⟨bf, 0, none⟩ = some (.pointer (some ⟨fb, 0, none⟩))) (first | assumption | exact hcw | go_keep) (first
    | (go_at_call 98; refine htop.out.mono ?_; rintro e w3 ⟨rfl, T3, sub3, h3, m3, u3, t3⟩; have kk : Keep w2 w3 := h3.keep; have hb3 := hid (hb2.out.keep kk); have hi3 := hid (hi2.out.keep kk); have hc3 := hb3.out.cell; have h3 := hid (h3.back h2.out.keep); have u3 := hid u3; clear m3 t3 kk)
    | (go_at_call 116; refine (h3.out.kth X bf bl k hX0 hxN u3.out (by rw [hMh.out]; exact hk) hb3.out hi3.out (by omega) (by omega)).mono ?_; rintro e w4 ⟨p, T4, sub4, rfl, hp0, hpN, h4, hkp⟩; have hc4 := (hb1.out.keep h4.keep).cell; have fin := hid (And.intro h4 (And.intro hp0 hkp)); clear h4 hp0 hkp))
  all_goals
    obtain ⟨d, rfl⟩ : ∃ d, p = d + 1 := ⟨p - 1, by have := fin.out.2.1; omega⟩
    rw [show ((d + 1 : Nat) : Int) = (d : Int) + 1 from by omega]
    have hit := item_ok d (by have := fin.out.1.fo.big; omega) w4
    rw [show ((d + 1 : Nat) : Int) = (d : Int) + 1 from by omega] at hit
    have hit := hid hit
    clear hcw hc3 hc4
    go_wp2_with fail
    refine hit.out.mono ?_
    rintro e w5 ⟨rfl, rfl⟩
    go_wp2_with fail
    go_ret2
    exact ⟨d, by rw [hXh.out]; exact fin.out.2.2, rfl, fin.out.1.end_, k1.out.trans fin.out.1.keep⟩

set_option maxRecDepth 100000 in
set_option maxHeartbeats 1000000 in
theorem FS.at_out (h : FS lo w fb n v seq w0) (x : Nat) (k : Int) (hx : x < n) (hk : ¬ (0 ≤ k ∧ k < ((seq (x + 1)).length : Int))) :
    Calls Tryz.prog 112 #[.pointer (some ⟨fb, 0, none⟩), .int .i64 (x : Int), .int .i64 k] w0 fun e w' => e = .returned (.tuple #[.int .i64 0, .iface 63 (.int .i64 1)]) ∧ FS lo w fb n v seq w' ∧ Keep w0 w' := by
  have hs := hid ((h.alloc (.cells #[.pointer (some ⟨fb, 0, none⟩)] 94)).sizeH x hx)
  have kb := hid ((Keep.refl w0).alloc (.cells #[.pointer (some ⟨fb, 0, none⟩)] 94))
  obtain ⟨M, hM⟩ : ∃ M, (seq (x + 1)).length = M := ⟨_, rfl⟩
  rw [hM] at hs hk
  have hM63 : M ≤ 8388610 := by
    obtain ⟨nb, N, T, sub, _, hg, hN, _⟩ := h.st
    have := hg.seq_len (x := x + 1) (by omega)
    have := hg.big
    omega
  clear h hM
  by_cases h0 : k < 0
  · have t1 : decide (k < 0) = true := decide_eq_true h0
    go_enter Tryz.func112, Tryz.ntmps112
    go_wp2_with fail
    refine hs.out.mono ?_
    rintro e w1 ⟨rfl, nb, N, T, sub, h1, hxN⟩
    have fin := hid (And.intro h1.end_ (kb.out.trans h1.keep))
    clear h1
    go_wp2_with fail
    go_ret2
    exact ⟨rfl, fin.out⟩
  · have t1 : decide (k < 0) = false := decide_eq_false h0
    have t2 : decide ((M : Int) ≤ k) = true := decide_eq_true (by omega)
    go_enter Tryz.func112, Tryz.ntmps112
    go_wp2_with fail
    refine hs.out.mono ?_
    rintro e w1 ⟨rfl, nb, N, T, sub, h1, hxN⟩
    have fin := hid (And.intro h1.end_ (kb.out.trans h1.keep))
    clear h1
    go_wp2_with fail
    go_ret2
    exact ⟨rfl, fin.out⟩

end

end Go.Proofs.YtdmkbcbgjdmgdaaGreatDoor

namespace Go.Proofs.YtdmkbcbgjdmgdaaGreatDoor
open Go.RowKit
set_option linter.unusedVariables false

set_option maxRecDepth 100000 in
set_option maxHeartbeats 400000 in
theorem list_nil (x : Int) (w0 : World) : Calls Tryz.prog 75 #[.pointer none, .int .i64 x] w0 fun e w' => e = .returned (.tuple #[.slice none 0 0, .iface 63 (.int .i64 1)]) ∧ Below w0.heap.size w0 w' := by
  go_enter Tryz.func75, Tryz.ntmps75
  go_wp2_with fail
  refine (size_nil x _).mono ?_
  rintro e w1 ⟨rfl, b1⟩
  go_wp2_with fail
  go_ret2
  exact ⟨rfl, b1⟩

set_option maxRecDepth 100000 in
set_option maxHeartbeats 400000 in
theorem at_nil (x k : Int) (w0 : World) : Calls Tryz.prog 112 #[.pointer none, .int .i64 x, .int .i64 k] w0 fun e w' => e = .returned (.tuple #[.int .i64 0, .iface 63 (.int .i64 1)]) ∧ Below w0.heap.size w0 w' := by
  go_enter Tryz.func112, Tryz.ntmps112
  go_wp2_with fail
  refine (size_nil x _).mono ?_
  rintro e w1 ⟨rfl, b1⟩
  go_wp2_with fail
  go_ret2
  exact ⟨rfl, ((Below.refl _ _).alloc (Nat.le_refl _) _).trans (b1.mono (by simp))⟩

section
variable {lo fb n : Nat} {w w0 : World} {v : Nat → Int} {seq : Nat → List Nat}







end

end Go.Proofs.YtdmkbcbgjdmgdaaGreatDoor

namespace Go.Proofs.YtdmkbcbgjdmgdaaGreatDoor
open Go.RowKit
set_option linter.unusedVariables false

section
variable {lo fb n : Nat} {w w0 : World} {v : Nat → Int} {seq : Nat → List Nat}

set_option maxRecDepth 100000 in
set_option maxHeartbeats 400000 in
theorem FS.at_bad (h : FS lo w fb n v seq w0) (x k : Int) (hx : ¬ (0 ≤ x ∧ x < (n : Int))) : Calls Tryz.prog 112 #[.pointer (some ⟨fb, 0, none⟩), .int .i64 x, .int .i64 k] w0 fun e w' => e = .returned (.tuple #[.int .i64 0, .iface 63 (.int .i64 12)]) ∧ FS lo w fb n v seq w' ∧ Keep w0 w' := by
  have hb := hid ((h.alloc (.cells #[.pointer (some ⟨fb, 0, none⟩)] 94)).size_bad x hx)
  have kin := hid ((Keep.refl w0).alloc (.cells #[.pointer (some ⟨fb, 0, none⟩)] 94))
  clear h hx
  go_enter Tryz.func112, Tryz.ntmps112
  go_wp2_with fail
  refine hb.out.mono ?_
  rintro e w1 ⟨rfl, h1, k1⟩
  have fin := hid (And.intro h1 (kin.out.trans k1))
  clear h1 k1
  go_wp2_with fail
  go_ret2
  exact ⟨rfl, fin.out⟩

set_option maxRecDepth 100000 in
set_option maxHeartbeats 400000 in
theorem FS.list_bad (h : FS lo w fb n v seq w0) (x : Int) (hx : ¬ (0 ≤ x ∧ x < (n : Int))) : Calls Tryz.prog 75 #[.pointer (some ⟨fb, 0, none⟩), .int .i64 x] w0 fun e w' => e = .returned (.tuple #[.slice none 0 0, .iface 63 (.int .i64 12)]) ∧ FS lo w fb n v seq w' ∧ Keep w0 w' := by
  have hb := hid (h.size_bad x hx)
  clear h hx
  go_enter Tryz.func75, Tryz.ntmps75
  go_wp2_with fail
  refine hb.out.mono ?_
  rintro e w1 ⟨rfl, h1, k1⟩
  have fin := hid (And.intro h1 k1)
  clear h1 k1
  go_wp2_with fail
  go_ret2
  exact ⟨rfl, fin.out⟩
end

end Go.Proofs.YtdmkbcbgjdmgdaaGreatDoor
