/- The Turns in memory; what a call may have turned. -/
import Derived.Test.YtieglcjfphmglaaDoorMem10
import Derived.Test.YtieglcjfphmglaaDoorTab10
namespace Go.Proofs.YtieglcjfphmglaaDoor
open Go.RowKit
set_option linter.unusedVariables false

def dc (m : Dr) : List Value := [.int .i32 (m.nx : Int), .int .i32 (m.pv : Int), .int .i32 m.og]
def sc (m : Sd) : List Value := [.int .i32 (m.dg : Int), .int .i32 (m.so : Int)]
abbrev drv (m : Dr) : Value := .agg #[.int .i32 (m.nx : Int), .int .i32 (m.pv : Int), .int .i32 m.og]
abbrev sdv (m : Sd) : Value := .agg #[.int .i32 (m.dg : Int), .int .i32 (m.so : Int)]

def flat {α : Type} (c : α → List Value) (T : Nat → α) : Nat → List Value
  | 0 => []
  | N + 1 => flat c T N ++ c (T N)

theorem flat_length {α : Type} {c : α → List Value} {q : Nat} (hc : ∀ a, (c a).length = q) (T : Nat → α) : ∀ N, (flat c T N).length = N * q
  | 0 => by simp [flat]
  | N + 1 => by rw [flat, List.length_append, flat_length hc T N, hc, Nat.succ_mul]

theorem flat_congr {α : Type} {c : α → List Value} {T T' : Nat → α} : ∀ {N : Nat}, (∀ i, i < N → T i = T' i) → flat c T N = flat c T' N
  | 0, _ => rfl
  | N + 1, h => by simp only [flat]; rw [flat_congr (fun i hi => h i (by omega)), h N (by omega)]

theorem mul_lt_help {i N q k : Nat} (hi : i < N) (hk : k < q) : i * q + k < N * q := by
  have : (i + 1) * q ≤ N * q := Nat.mul_le_mul_right _ (by omega)
  rw [Nat.succ_mul] at this
  omega

theorem flat_get {α : Type} {c : α → List Value} {q : Nat} (hc : ∀ a, (c a).length = q) (T : Nat → α) : ∀ (N i k : Nat), i < N → k < q → (flat c T N)[i * q + k]? = (c (T i))[k]?
  | 0, i, k, hi, _ => by omega
  | N + 1, i, k, hi, hk => by
    unfold flat
    by_cases e : i = N
    · subst e
      rw [List.getElem?_append_right (by rw [flat_length hc]; omega), flat_length hc]
      congr 1; omega
    · rw [List.getElem?_append_left (by rw [flat_length hc]; exact mul_lt_help (by omega) hk)]
      exact flat_get hc T N i k (by omega) hk

theorem flat_set {α : Type} {c : α → List Value} {q : Nat} (hc : ∀ a, (c a).length = q) {T : Nat → α} {i k : Nat} {u : Value} {n' : α} (hk : k < q) (hn : c n' = (c (T i)).set k u) : ∀ (N : Nat), i < N → (flat c T N).set (i * q + k) u = flat c (up T i n') N
  | 0, hi => by omega
  | N + 1, hi => by
    unfold flat
    by_cases e : i = N
    · subst e
      rw [List.set_append_right _ _ (by rw [flat_length hc]; omega), flat_length hc, up_same, hn, flat_congr (T := up T i n') (T' := T) (fun j hj => up_ne (by omega))]
      congr 2; omega
    · rw [List.set_append_left _ _ (by rw [flat_length hc]; exact mul_lt_help (by omega) hk), flat_set hc hk hn N (by omega), up_ne (by omega)]

theorem dc_len (m : Dr) : (dc m).length = 3 := rfl
theorem sc_len (m : Sd) : (sc m).length = 2 := rfl

theorem Ty.uniq {w : World} {b : Nat} {t t' : TypeId} (h : Ty w b t) (h' : Ty w b t') : t = t' := by
  obtain ⟨cs, fr, h⟩ := h
  obtain ⟨cs', fr', h'⟩ := h'
  rw [h] at h'
  injection h' with h'
  injection h'

/-- A block that a Turns may have as its own. -/
def Mi (w : World) (k : Nat) : Prop := Ty w k 96 ∨ Ty w k 90 ∨ Ty w k 83

/-- Below lo, and but for such blocks, all is as it was; new blocks may have come. -/
structure Kp (lo : Nat) (w w' : World) : Prop where
  os : w'.os = w.os
  tape : w'.tape = w.tape
  output : w'.output = w.output
  size : w.heap.size ≤ w'.heap.size
  block : ∀ k, k < w.heap.size → (k < lo ∨ ¬ Mi w k) → w'.heap[k]? = w.heap[k]?

theorem Mi.of {w w' : World} {k : Nat} (h : Mi w' k) (he : w'.heap[k]? = w.heap[k]?) : Mi w k := by
  rcases h with h | h | h
  · exact .inl (h.of he.symm)
  · exact .inr (.inl (h.of he.symm))
  · exact .inr (.inr (h.of he.symm))

theorem Kp.refl (lo : Nat) (w : World) : Kp lo w w := ⟨rfl, rfl, rfl, Nat.le_refl _, fun _ _ _ => rfl⟩
theorem Kp.trans {lo : Nat} {a b c : World} (h : Kp lo a b) (k : Kp lo b c) : Kp lo a c :=
  ⟨k.os.trans h.os, k.tape.trans h.tape, k.output.trans h.output, Nat.le_trans h.size k.size, fun i hi h1 => by
    have e := h.block i hi h1
    refine (k.block i (Nat.lt_of_lt_of_le hi h.size) ?_).trans e
    rcases h1 with h1 | h1
    · exact .inl h1
    · exact .inr (fun hm => h1 (hm.of e))⟩
theorem Kp.ofBelow {w w' : World} (h : Below w.heap.size w w') (lo : Nat) : Kp lo w w' := ⟨h.os, h.tape, h.output, h.size, fun k hk _ => h.block k hk⟩
theorem Kp.below {lo : Nat} {w w' : World} (h : Kp lo w w') (hl : lo ≤ w.heap.size) : Below lo w w' := ⟨h.os, h.tape, h.output, h.size, fun k hk => h.block k (by omega) (.inl hk)⟩
theorem Kp.drew {lo : Nat} {a w : World} (h : Kp lo a w) : Kp lo a w.drew := ⟨h.os, h.tape, h.output, h.size, h.block⟩
theorem Kp.grown {lo : Nat} {w w' : World} {row : Option Nat} (h : w.grownBy w' row) (hs : ∀ k, row = some k → lo ≤ k ∧ Mi w k) : Kp lo w w' :=
  ⟨h.os, h.tape, h.output, h.size, fun k hk ho => h.block k hk (fun e => by
    obtain ⟨h1, h2⟩ := hs k e.symm
    rcases ho with ho | ho
    · omega
    · exact ho h2)⟩
theorem Kp.set {lo : Nat} {w : World} {p : Addr} (hl : lo ≤ p.block) (hm : Mi w p.block) (u : Value) : Kp lo w (w.setCell p u) :=
  ⟨rfl, rfl, rfl, by simp [World.setCell], fun k hk ho => Below.heap_setCell _ _ _ _ (fun e => by
    subst e
    rcases ho with ho | ho
    · omega
    · exact ho hm)⟩

/-- A block of another type stays. -/
theorem Kp.keep {lo : Nat} {w w' : World} (h : Kp lo w w') {k : Nat} {t : TypeId} (ht : Ty w k t) (h1 : t ≠ 96) (h2 : t ≠ 90) (h3 : t ≠ 83) : w'.heap[k]? = w.heap[k]? :=
  h.block k ht.lt (.inr (fun hm => by
    rcases hm with hm | hm | hm
    · exact h1 (ht.uniq hm)
    · exact h2 (ht.uniq hm)
    · exact h3 (ht.uniq hm)))
theorem Kp.al {lo : Nat} {w w' : World} (h : Kp lo w w') : Al w w' := fun b hb => by
  rcases hb with hb | hb
  · exact h.keep hb (by decide) (by decide) (by decide)
  · exact h.keep hb (by decide) (by decide) (by decide)

/-- The Turns at tb. -/
structure Tm (w : World) (lo tb : Nat) (dv sv : Value) (V E K M : Nat) (D : Nat → Dr) (S : Nat → Sd) : Prop where
  self : w.heap[tb]? = some (.cells #[.int .i64 (V : Int), .int .i64 (E : Int), dv, sv] 96 (0, 0))
  da : w.ownsRow lo 90 3 dv K (flat dc D K)
  st : w.ownsRow lo 83 2 sv M (flat sc S M)
  rd : ∀ x, K ≤ x → D x = nw
  rs : ∀ x, M ≤ x → S x = sd0
  low : lo ≤ tb
  hK : K ≤ 2 * E
  hM : M ≤ V
  hV : V ≤ 1048576
  hE : E ≤ 1048576

section
variable {w w' : World} {lo tb V E K M : Nat} {dv sv : Value} {D : Nat → Dr} {S : Nat → Sd} (h : Tm w lo tb dv sv V E K M D S)
include h

theorem Tm.c0 : w.cell? ⟨tb, 0, none⟩ = some (.int .i64 (V : Int)) := by unfold World.cell?; rw [h.self]; simp
theorem Tm.c1 : w.cell? ⟨tb, 1, none⟩ = some (.int .i64 (E : Int)) := by unfold World.cell?; rw [h.self]; simp
theorem Tm.c2 : w.cell? ⟨tb, 2, none⟩ = some dv := by unfold World.cell?; rw [h.self]; simp
theorem Tm.c3 : w.cell? ⟨tb, 3, none⟩ = some sv := by unfold World.cell?; rw [h.self]; simp
theorem Tm.f2 : w.frozen? ⟨tb, 2, none⟩ = false := by unfold World.frozen?; rw [h.self]; simp
theorem Tm.f3 : w.frozen? ⟨tb, 3, none⟩ = false := by unfold World.frozen?; rw [h.self]; simp
theorem Tm.lt : tb < w.heap.size := (Array.getElem?_eq_some_iff.1 h.self).1
theorem Tm.ty : Ty w tb 96 := ⟨_, _, h.self⟩
theorem Tm.dty {k : Nat} (hk : dv.ownBlock = some k) : Ty w k 90 := row_ty h.da hk
theorem Tm.sty {k : Nat} (hk : sv.ownBlock = some k) : Ty w k 83 := row_ty h.st hk
theorem Tm.dne : dv.ownBlock ≠ some tb := fun e => absurd ((h.dty e).uniq h.ty) (by decide)
theorem Tm.sne : sv.ownBlock ≠ some tb := fun e => absurd ((h.sty e).uniq h.ty) (by decide)
theorem Tm.ds {k : Nat} (hk : dv.ownBlock = some k) : sv.ownBlock ≠ some k := fun e => absurd ((h.sty e).uniq (h.dty hk)) (by decide)

theorem Tm.of (hb : w'.heap[tb]? = w.heap[tb]?) (hd : ∀ k, dv.ownBlock = some k → w'.heap[k]? = w.heap[k]?) (hs : ∀ k, sv.ownBlock = some k → w'.heap[k]? = w.heap[k]?) : Tm w' lo tb dv sv V E K M D S := by
  refine ⟨hb.trans h.self, ?_, ?_, h.rd, h.rs, h.low, h.hK, h.hM, h.hV, h.hE⟩
  · refine ⟨h.da.1, ?_⟩
    rcases h.da.2 with hn | ⟨g, cap, cur, rfl, hb, hgg, rest⟩
    · exact .inl hn
    · exact .inr ⟨g, cap, cur, rfl, hb, (hd g rfl).trans hgg, rest⟩
  · refine ⟨h.st.1, ?_⟩
    rcases h.st.2 with hn | ⟨g, cap, cur, rfl, hb, hgg, rest⟩
    · exact .inl hn
    · exact .inr ⟨g, cap, cur, rfl, hb, (hs g rfl).trans hgg, rest⟩

theorem Tm.more (hb : Below w.heap.size w w') : Tm w' lo tb dv sv V E K M D S := h.of (hb.block _ h.lt) (fun k hk => hb.block _ (h.dty hk).lt) (fun k hk => hb.block _ (h.sty hk).lt)
end

/-- What is kept of a dart, where the row lies. -/
theorem Tm.dat {w : World} {lo tb V E K M g cap : Nat} {sv : Value} {D : Nat → Dr} {S : Nat → Sd} (h : Tm w lo tb (.slice (some ⟨g, 0, none⟩) K cap) sv V E K M D S) {i : Nat} (hi : i < K) :
    w.cell? ⟨g, i * 3, none⟩ = some (.int .i32 ((D i).nx : Int)) ∧ w.cell? ⟨g, i * 3 + 1, none⟩ = some (.int .i32 ((D i).pv : Int)) ∧ w.cell? ⟨g, i * 3 + 2, none⟩ = some (.int .i32 (D i).og) := by
  refine ⟨?_, ?_, ?_⟩
  · rw [h.da.cellAt _ (by omega)]; exact flat_get dc_len D K i 0 hi (by decide)
  · rw [h.da.cellAt _ (by omega)]; exact flat_get dc_len D K i 1 hi (by decide)
  · rw [h.da.cellAt _ (by omega)]; exact flat_get dc_len D K i 2 hi (by decide)

theorem Tm.sat {w : World} {lo tb V E K M g cap : Nat} {dv : Value} {D : Nat → Dr} {S : Nat → Sd} (h : Tm w lo tb dv (.slice (some ⟨g, 0, none⟩) M cap) V E K M D S) {i : Nat} (hi : i < M) :
    w.cell? ⟨g, i * 2, none⟩ = some (.int .i32 ((S i).dg : Int)) ∧ w.cell? ⟨g, i * 2 + 1, none⟩ = some (.int .i32 ((S i).so : Int)) := by
  refine ⟨?_, ?_⟩
  · rw [h.st.cellAt _ (by omega)]; exact flat_get sc_len S M i 0 hi (by decide)
  · rw [h.st.cellAt _ (by omega)]; exact flat_get sc_len S M i 1 hi (by decide)

/-- A dart's cell turns. -/
theorem Tm.dset {w : World} {lo tb V E K M g cap : Nat} {sv : Value} {D : Nat → Dr} {S : Nat → Sd} (h : Tm w lo tb (.slice (some ⟨g, 0, none⟩) K cap) sv V E K M D S) {i : Nat} (k : Nat) {u : Value} (n' : Dr) (hi : i < K) (hk : k < 3) (hn : dc n' = (dc (D i)).set k u) :
    Tm (w.setCell ⟨g, i * 3 + k, none⟩ u) lo tb (.slice (some ⟨g, 0, none⟩) K cap) sv V E K M (up D i n') S ∧ Kp lo w (w.setCell ⟨g, i * 3 + k, none⟩ u) := by
  obtain ⟨h1, h2⟩ := h.da.stored (i * 3 + k) u
  rw [flat_set dc_len hk hn K hi] at h1
  have hg := h.dty (k := g) rfl
  refine ⟨⟨(h2.block tb h.lt (fun e => h.dne e.symm)).trans h.self, h1, h.st.kept h2 (.inr (h.ds rfl)), fun x hx => by rw [up_ne (by omega)]; exact h.rd x hx, h.rs, h.low, h.hK, h.hM, h.hV, h.hE⟩, Kp.set (p := ⟨g, i * 3 + k, none⟩) (h.da.lt g rfl).1 (.inr (.inl hg)) u⟩

/-- A vertex's cell turns. -/
theorem Tm.sset {w : World} {lo tb V E K M g cap : Nat} {dv : Value} {D : Nat → Dr} {S : Nat → Sd} (h : Tm w lo tb dv (.slice (some ⟨g, 0, none⟩) M cap) V E K M D S) {i : Nat} (k : Nat) {u : Value} (n' : Sd) (hi : i < M) (hk : k < 2) (hn : sc n' = (sc (S i)).set k u) :
    Tm (w.setCell ⟨g, i * 2 + k, none⟩ u) lo tb dv (.slice (some ⟨g, 0, none⟩) M cap) V E K M D (up S i n') ∧ Kp lo w (w.setCell ⟨g, i * 2 + k, none⟩ u) := by
  obtain ⟨h1, h2⟩ := h.st.stored (i * 2 + k) u
  rw [flat_set sc_len hk hn M hi] at h1
  have hg := h.sty (k := g) rfl
  refine ⟨⟨(h2.block tb h.lt (fun e => h.sne e.symm)).trans h.self, h.da.kept h2 (.inr (fun e => h.ds e rfl)), h1, h.rd, fun x hx => by rw [up_ne (by omega)]; exact h.rs x hx, h.low, h.hK, h.hM, h.hV, h.hE⟩, Kp.set (p := ⟨g, i * 2 + k, none⟩) (h.st.lt g rfl).1 (.inr (.inr hg)) u⟩

theorem set_block {w : World} {g k : Nat} {cs : Array Value} {t : TypeId} (h : w.heap[g]? = some (.cells cs t (0, 0))) (u : Value) : (w.setCell ⟨g, k, none⟩ u).heap[g]? = some (.cells (cs.setIfInBounds k u) t (0, 0)) := by
  unfold World.setCell
  rw [Array.getElem?_modify, if_pos rfl, h]
  simp

theorem grown_set (w : World) (p : Addr) (u : Value) : w.grownBy (w.setCell p u) (some p.block) := ⟨rfl, rfl, rfl, by simp [World.setCell], fun k hk hne => Below.heap_setCell _ _ _ _ (fun e => hne (by rw [e]))⟩

/-- One dart more is kept. -/
theorem Tm.growD {w w2 w3 : World} {lo tb V E K M g cap : Nat} {dv sv : Value} {D : Nat → Dr} {S : Nat → Sd} (h : Tm w lo tb dv sv V E K M D S) (hK : K < 2 * E) (hb : Below w.heap.size w w2) (hg : w2.grownBy w3 dv.ownBlock)
    (ho : w3.ownsRow lo 90 3 (.slice (some ⟨g, 0, none⟩) (K + 1) cap) (K + 1) (flat dc D K ++ dc nw)) :
    Tm (w3.setCell ⟨tb, 2, none⟩ (.slice (some ⟨g, 0, none⟩) (K + 1) cap)) lo tb (.slice (some ⟨g, 0, none⟩) (K + 1) cap) sv V E (K + 1) M D S ∧ Kp lo w (w3.setCell ⟨tb, 2, none⟩ (.slice (some ⟨g, 0, none⟩) (K + 1) cap)) := by
  have h2 := h.more hb
  have hs3 := (hg.block tb h2.lt (fun e => h2.dne e.symm)).trans h2.self
  have hgt := row_ty ho (g := g) rfl
  have hgn : g ≠ tb := fun e => absurd (hgt.uniq (e ▸ ⟨_, _, hs3⟩ : Ty w3 g 96)) (by decide)
  have hf : flat dc D K ++ dc nw = flat dc D (K + 1) := by
    rw [← h.rd K (Nat.le_refl _)]; rfl
  rw [hf] at ho
  have hst := h2.st.kept hg (by
    cases hj : sv.ownBlock with
    | none => exact .inl rfl
    | some k => exact .inr (fun e => h2.ds e.symm hj))
  refine ⟨⟨?_, ho.kept (grown_set w3 ⟨tb, 2, none⟩ _) (.inr (by simpa [Value.ownBlock] using hgn)), hst.kept (grown_set w3 ⟨tb, 2, none⟩ _) (.inr h2.sne), fun x hx => h.rd x (by omega), h.rs, h.low, by omega, h.hM, h.hV, h.hE⟩, ?_⟩
  · rw [set_block hs3]; rfl
  · refine ((Kp.ofBelow hb lo).trans (Kp.grown hg (fun k hk => ⟨(h2.da.lt k hk).1, .inr (.inl (h2.dty hk))⟩))).trans (Kp.set (p := ⟨tb, 2, none⟩) h.low (.inl ⟨_, _, hs3⟩) _)

/-- One vertex more is kept. -/
theorem Tm.growS {w w2 w3 : World} {lo tb V E K M g cap : Nat} {dv sv : Value} {D : Nat → Dr} {S : Nat → Sd} (h : Tm w lo tb dv sv V E K M D S) (hM : M < V) (hb : Below w.heap.size w w2) (hg : w2.grownBy w3 sv.ownBlock)
    (ho : w3.ownsRow lo 83 2 (.slice (some ⟨g, 0, none⟩) (M + 1) cap) (M + 1) (flat sc S M ++ sc sd0)) :
    Tm (w3.setCell ⟨tb, 3, none⟩ (.slice (some ⟨g, 0, none⟩) (M + 1) cap)) lo tb dv (.slice (some ⟨g, 0, none⟩) (M + 1) cap) V E K (M + 1) D S ∧ Kp lo w (w3.setCell ⟨tb, 3, none⟩ (.slice (some ⟨g, 0, none⟩) (M + 1) cap)) := by
  have h2 := h.more hb
  have hs3 := (hg.block tb h2.lt (fun e => h2.sne e.symm)).trans h2.self
  have hgt := row_ty ho (g := g) rfl
  have hgn : g ≠ tb := fun e => absurd (hgt.uniq (e ▸ ⟨_, _, hs3⟩ : Ty w3 g 96)) (by decide)
  have hf : flat sc S M ++ sc sd0 = flat sc S (M + 1) := by
    rw [← h.rs M (Nat.le_refl _)]; rfl
  rw [hf] at ho
  have hda := h2.da.kept hg (by
    cases hj : dv.ownBlock with
    | none => exact .inl rfl
    | some k => exact .inr (fun e => h2.ds hj e.symm))
  refine ⟨⟨?_, hda.kept (grown_set w3 ⟨tb, 3, none⟩ _) (.inr h2.dne), ho.kept (grown_set w3 ⟨tb, 3, none⟩ _) (.inr (by simpa [Value.ownBlock] using hgn)), h.rd, fun x hx => h.rs x (by omega), h.low, h.hK, by omega, h.hV, h.hE⟩, ?_⟩
  · rw [set_block hs3]; rfl
  · refine ((Kp.ofBelow hb lo).trans (Kp.grown hg (fun k hk => ⟨(h2.st.lt k hk).1, .inr (.inr (h2.sty hk))⟩))).trans (Kp.set (p := ⟨tb, 3, none⟩) h.low (.inl ⟨_, _, hs3⟩) _)

/-- How long the slice at a place is. -/
def lenAt (w : World) (a : Addr) : Nat := match w.cell? a with
  | some (.slice _ k _) => k
  | _ => 0

end Go.Proofs.YtieglcjfphmglaaDoor
