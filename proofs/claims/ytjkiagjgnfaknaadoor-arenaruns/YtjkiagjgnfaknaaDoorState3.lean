/- Where a law over one Arena stands; 'sure'. -/
import Derived.Test.YtjkiagjgnfaknaaDoorAll3
namespace Go.Proofs.YtjkiagjgnfaknaaDoor
open Go.RowKit

/-- Blocks from hi on that hold no places are as they were. -/
def Keep (hi : Nat) (w w' : World) : Prop := ∀ k cs t fr, hi ≤ k → w.heap[k]? = some (.cells cs t fr) → t ≠ 70 → w'.heap[k]? = some (.cells cs t fr)

theorem Keep.trans {hi : Nat} {a b c : World} (h : Keep hi a b) (k : Keep hi b c) : Keep hi a c := fun i cs t fr h1 h2 h3 => k i cs t fr h1 (h i cs t fr h1 h2 h3) h3

theorem Keep.below {hi : Nat} {w w' : World} (h : Below w.heap.size w w') : Keep hi w w' := fun k _ _ _ _ h2 _ => (h.block k (Array.getElem?_eq_some_iff.1 h2).1).trans h2

theorem Keep.alloc (hi : Nat) (w : World) (o : Obj) : Keep hi w (w.alloc o) := Keep.below ((Below.refl _ _).alloc (Nat.le_refl _) _)

theorem Tab.two {w : World} (h : Tab w) : 2 ≤ w.heap.size := World.block_lt_of_cell? w _ (h 0 (by decide))

theorem Tab.below {w w' : World} (h : Tab w) (hb : Below w.heap.size w w') : Tab w' := h.of (Within.ofBelow hb w.heap.size w.heap.size) h.two

theorem Tab.turned {S : Nat → Prop} {w w' : World} (h : Tab w) (hw : Turned S w w') (ho : ∀ k, S k → 2 ≤ k) : Tab w' := fun j hj => hw.cell (h j hj) (fun e => by have := ho _ e; simp at this)

/-- Where a law stands: its Arena, the program's variables; below lo nothing turned. -/
structure SA (lo hi ab n : Nat) (w : World) (ps : List (Int × Int)) (wr : World) : Prop where
  arena : ∃ ob, Arena wr lo hi ab ob n ps
  env : Tab wr
  below : Below lo w wr
  two : 2 ≤ lo

theorem SA.more {lo hi ab n : Nat} {w wr w' : World} {ps : List (Int × Int)} (h : SA lo hi ab n w ps wr) (hb : Below wr.heap.size wr w') : SA lo hi ab n w ps w' := by
  obtain ⟨ob, ha⟩ := h.arena
  have hp := ha.pos
  exact ⟨⟨ob, ha.below hb⟩, h.env.below hb, h.below.trans (hb.mono (by omega)), h.two⟩

theorem SA.alloc {lo hi ab n : Nat} {w wr : World} {ps : List (Int × Int)} (h : SA lo hi ab n w ps wr) (o : Obj) : SA lo hi ab n w ps (wr.alloc o) := h.more ((Below.refl _ _).alloc (Nat.le_refl _) _)

theorem SA.drew {lo hi ab n : Nat} {w wr : World} {ps : List (Int × Int)} (h : SA lo hi ab n w ps wr) : SA lo hi ab n w ps wr.drew := h.more (Below.refl _ _).drew

theorem SA.hiLe {lo hi ab n : Nat} {w wr : World} {ps : List (Int × Int)} (h : SA lo hi ab n w ps wr) : hi ≤ wr.heap.size ∧ lo ≤ wr.heap.size ∧ n ≤ 1048576 ∧ 1 ≤ n ∧ ps.length ≤ n := by
  obtain ⟨ob, ha⟩ := h.arena
  have hp := ha.pos
  exact ⟨by omega, by omega, by omega, by omega, ha.2.le⟩

theorem SA.fair {lo hi ab n : Nat} {w wr : World} {ps : List (Int × Int)} (h : SA lo hi ab n w ps wr) : Fair n ps := by
  obtain ⟨ob, ha⟩ := h.arena
  exact ha.2

/-- A block of another type is none of the Arena's own. -/
theorem Arena.apart {w : World} {lo hi ab n vb : Nat} {ob : Option Nat} {ps : List (Int × Int)} {cs : Array Value} {t : TypeId} {fr : Nat × Nat} (h : Arena w lo hi ab ob n ps) (hv : w.heap[vb]? = some (.cells cs t fr)) (ht : t ≠ 70) (hvb : hi ≤ vb) : ¬ own lo hi ob vb := by
  rintro (⟨_, h2⟩ | h2)
  · omega
  · obtain ⟨⟨sb, hh⟩, _⟩ := h
    obtain ⟨hs, pv, _, _, hown, hpo, _⟩ := hh.row
    rcases hown.2 with ⟨rfl, _⟩ | ⟨g, cap, cur, rfl, _, hg, _⟩
    · rw [← hpo] at h2; simp [Value.ownBlock] at h2
    · rw [← hpo] at h2
      simp [Value.ownBlock] at h2
      subst h2
      rw [hg] at hv
      injection hv with e
      injection e with _ e2
      exact ht e2.symm

theorem Arena.keep {w w' : World} {lo hi ab n : Nat} {ob : Option Nat} {ps : List (Int × Int)} (h : Arena w lo hi ab ob n ps) (ht : Turned (own lo hi ob) w w') : Keep hi w w' :=
  fun k _ _ _ h1 h2 h3 => (ht.block k (Array.getElem?_eq_some_iff.1 h2).1 (h.apart h2 h3 h1)).trans h2

theorem Arena.lowOwn {w : World} {lo hi ab n : Nat} {ob : Option Nat} {ps : List (Int × Int)} (h : Arena w lo hi ab ob n ps) : ∀ k, own lo hi ob k → lo ≤ k := by
  intro k hk
  rcases hk with ⟨h1, _⟩ | h1
  · exact h1
  · exact (h.pos.2.2.2.2.2 k h1).1

theorem SA.turn {lo hi ab n : Nat} {w wr w' : World} {ps ps' : List (Int × Int)} {ob : Option Nat} (h : SA lo hi ab n w ps wr) (ha : Arena wr lo hi ab ob n ps) (ht : Turned (own lo hi ob) wr w') (hn : ∃ ob', Arena w' lo hi ab ob' n ps') : SA lo hi ab n w ps' w' := by
  have hp := ha.pos
  have htwo := h.two
  exact ⟨hn, h.env.turned ht (fun k hk => by have := ha.lowOwn k hk; omega), h.below.trans (ht.below ha.lowOwn (by omega)), h.two⟩

theorem SA.new (n : Nat) (w : World) (hE : Tab w) (h1 : 1 ≤ n) (hn : n ≤ 1048576) :
    Calls Tryd.prog 33 #[.int .i64 (n : Int)] w fun e w' => ∃ ab, e = .returned (.tuple #[.pointer (some ⟨ab, 0, none⟩), .nilIface]) ∧ SA w.heap.size w'.heap.size ab n w [] w' := by
  refine (new3_ok n w h1 hn).mono ?_
  rintro e w' ⟨ab, ob, rfl, ha, hb⟩
  exact ⟨ab, rfl, ⟨ob, ha⟩, hE.below hb, hb, hE.two⟩

theorem SA.load (n : Nat) (ad : Option Addr) (ps : List (Int × Int)) (cap : Nat) (w : World) (hE : Tab w) (h : Prow w ad ps) (h0 : ad = none → cap = 0) (h1 : 1 ≤ n) (hn : n ≤ 1048576) (hf : Fair n ps) :
    Calls Tryd.prog 4 #[.int .i64 (n : Int), .slice ad ps.length cap] w fun e w' => ∃ ab, e = .returned (.tuple #[.pointer (some ⟨ab, 0, none⟩), .nilIface]) ∧ SA w.heap.size w'.heap.size ab n w ps w' := by
  refine (load_ok n ad ps cap w h h0 h1 hn hf).mono ?_
  rintro e w' ⟨ab, ob, rfl, ha, hb⟩
  exact ⟨ab, rfl, ⟨ob, ha⟩, hE.below hb, hb, hE.two⟩

theorem SA.add {lo hi ab n : Nat} {w wr : World} {ps ps' : List (Int × Int)} {A : Int} (h : SA lo hi ab n w ps wr) (x : Nat) (hl : lowP ps = x) (hx : x < n) (hA : (atP ps x).1 + 1 = A) (hp : putP ps x (A, 1) = ps') :
    Calls Tryd.prog 13 #[.pointer (some ⟨ab, 0, none⟩)] wr fun e w' => e = .returned (.tuple #[hv A x, .nilIface]) ∧ SA lo hi ab n w ps' w' ∧ Keep hi wr w' := by
  subst hl hA hp
  obtain ⟨ob, ha⟩ := h.arena
  refine (add_hit lo hi ab n ob ps wr ha h.env hx).mono ?_
  rintro e w' ⟨ob', rfl, ha', ht, _⟩
  exact ⟨rfl, h.turn ha ht ⟨ob', ha'⟩, ha.keep ht⟩

theorem SA.addFull {lo hi ab n : Nat} {w wr : World} {ps : List (Int × Int)} (h : SA lo hi ab n w ps wr) (hx : n ≤ lowP ps) :
    Calls Tryd.prog 13 #[.pointer (some ⟨ab, 0, none⟩)] wr fun e w' => e = .returned (.tuple #[hv 0 0, .iface 66 (.int .i64 16)]) ∧ Below wr.heap.size wr w' := by
  obtain ⟨ob, ha⟩ := h.arena
  exact add_full lo hi ab n ob ps wr ha h.env hx

theorem SA.drop {lo hi ab n : Nat} {w wr : World} {ps ps' : List (Int × Int)} {A : Int} (h : SA lo hi ab n w ps wr) (x : Nat) (hat : atP ps x = (A, 1)) (hp : putP ps x (A, if A = 4294967295 then 2 else 0) = ps') :
    Calls Tryd.prog 9 #[.pointer (some ⟨ab, 0, none⟩), hv A x] wr fun e w' => e = .returned .nilIface ∧ SA lo hi ab n w ps' w' ∧ Keep hi wr w' := by
  subst hp
  obtain ⟨ob, ha⟩ := h.arena
  refine (drop_ok lo hi ab n x A ob ps wr ha hat).mono ?_
  rintro e w' ⟨rfl, ha', ht⟩
  exact ⟨rfl, h.turn ha ht ⟨ob, ha'⟩, ha.keep ht⟩

theorem SA.dropErr {lo hi ab n : Nat} {w wr : World} {ps : List (Int × Int)} {A : Int} (h : SA lo hi ab n w ps wr) (x : Nat) (hx : x < 4294967296) (c : Nat) (hc : (n ≤ x ∧ c = 12) ∨ (x < n ∧ atP ps x ≠ (A, 1) ∧ c = 13)) :
    Calls Tryd.prog 9 #[.pointer (some ⟨ab, 0, none⟩), hv A x] wr fun e w' => e = .returned (.iface 66 (.int .i64 (c : Int))) ∧ Below wr.heap.size wr w' := by
  obtain ⟨ob, ha⟩ := h.arena
  exact drop_err lo hi ab n x A ob ps wr ha hx c hc

theorem SA.find {lo hi ab n : Nat} {w wr : World} {ps : List (Int × Int)} {A : Int} (h : SA lo hi ab n w ps wr) (x : Nat) (hat : atP ps x = (A, 1)) :
    Calls Tryd.prog 10 #[.pointer (some ⟨ab, 0, none⟩), hv A x] wr fun e w' => e = .returned (.tuple #[.int .i64 (x : Int), .nilIface]) ∧ Below wr.heap.size wr w' := by
  obtain ⟨ob, ha⟩ := h.arena
  have hp := ha.pos
  have hl := live_lt (show (atP ps x).2 = 1 by rw [hat])
  have := ha.2.le
  exact find_ok lo hi ab n x A ob ps wr ha (by omega) (by omega) hat

theorem SA.findErr {lo hi ab n : Nat} {w wr : World} {ps : List (Int × Int)} {A : Int} (h : SA lo hi ab n w ps wr) (x : Nat) (hx : x < 4294967296) (c : Nat) (hc : (n ≤ x ∧ c = 12) ∨ (x < n ∧ atP ps x ≠ (A, 1) ∧ c = 13)) :
    Calls Tryd.prog 10 #[.pointer (some ⟨ab, 0, none⟩), hv A x] wr fun e w' => e = .returned (.tuple #[.int .i64 0, .iface 66 (.int .i64 (c : Int))]) ∧ Below wr.heap.size wr w' := by
  obtain ⟨ob, ha⟩ := h.arena
  rcases hc with ⟨h1, rfl⟩ | ⟨h1, h2, rfl⟩
  · exact find_range lo hi ab n x A ob ps wr ha hx h1
  · exact find_stale lo hi ab n x A ob ps wr ha hx h1 h2

theorem SA.handle {lo hi ab n : Nat} {w wr : World} {ps : List (Int × Int)} {A : Int} (h : SA lo hi ab n w ps wr) (x : Nat) (hat : atP ps x = (A, 1)) :
    Calls Tryd.prog 12 #[.pointer (some ⟨ab, 0, none⟩), .int .i64 (x : Int)] wr fun e w' => e = .returned (.tuple #[hv A x, .nilIface]) ∧ Below wr.heap.size wr w' := by
  obtain ⟨ob, ha⟩ := h.arena
  have hl := live_lt (show (atP ps x).2 = 1 by rw [hat])
  have := ha.2.le
  have := handle_in lo hi ab n x ob ps wr ha (by omega)
  rw [hat, if_pos rfl] at this
  exact this

theorem SA.handleStale {lo hi ab n : Nat} {w wr : World} {ps : List (Int × Int)} (h : SA lo hi ab n w ps wr) (x : Nat) (hx : x < n) (hat : (atP ps x).2 ≠ 1) :
    Calls Tryd.prog 12 #[.pointer (some ⟨ab, 0, none⟩), .int .i64 (x : Int)] wr fun e w' => e = .returned (.tuple #[hv 0 0, .iface 66 (.int .i64 13)]) ∧ Below wr.heap.size wr w' := by
  obtain ⟨ob, ha⟩ := h.arena
  have := handle_in lo hi ab n x ob ps wr ha hx
  rw [if_neg hat] at this
  exact this

theorem SA.len {lo hi ab n : Nat} {w wr : World} {ps : List (Int × Int)} (h : SA lo hi ab n w ps wr) :
    Calls Tryd.prog 17 #[.pointer (some ⟨ab, 0, none⟩)] wr fun e w' => e = .returned (.int .i64 ((liveN ps : Nat) : Int)) ∧ Below wr.heap.size wr w' := by
  obtain ⟨ob, ha⟩ := h.arena
  exact len3_ok lo hi ab n ob ps wr ha

theorem SA.full {lo hi ab n : Nat} {w wr : World} {ps : List (Int × Int)} (h : SA lo hi ab n w ps wr) (b : Bool) (hb : decide (lowP ps = n) = b) :
    Calls Tryd.prog 19 #[.pointer (some ⟨ab, 0, none⟩)] wr fun e w' => e = .returned (.bool b) ∧ Below wr.heap.size wr w' := by
  obtain ⟨ob, ha⟩ := h.arena
  have e : fullB n ps = b := by
    rw [← hb]
    unfold fullB
    have := full_iff ha.2.le
    by_cases hf : heldN ps = n
    · rw [decide_eq_true (this.1 hf), hf]; simp
    · rw [decide_eq_false (fun e => hf (this.2 e))]
      simp; omega
  rw [← e]
  exact full3_ok lo hi ab n ob ps wr ha



theorem SA.handleIs {lo hi ab n : Nat} {w wr : World} {ps : List (Int × Int)} (h : SA lo hi ab n w ps wr) (hg : Handle w) : Handle wr := by
  have := h.below.cell (p := ⟨0, 0, none⟩) (show 0 < lo by have := h.two; omega)
  unfold Handle
  rw [this]
  exact hg

theorem SA.end_ {lo hi ab n : Nat} {w wr w' : World} {ps : List (Int × Int)} (h : SA lo hi ab n w ps wr) (hb : Below wr.heap.size wr w') : Below lo w w' := (h.more hb).below

theorem blk2 {w : World} {b : Nat} {x y : Value} {t : TypeId} {fr : Nat × Nat} (h : w.heap[b]? = some (.cells #[x, y] t fr)) : w.cell? ⟨b, 0, none⟩ = some x ∧ w.cell? ⟨b, 1, none⟩ = some y := by
  constructor <;> (unfold World.cell?; rw [h]; simp)

set_option maxRecDepth 100000 in
set_option maxHeartbeats 2000000 in
theorem sure_ok (w : World) (hE : Tab w) : Calls Tryd.prog 21 #[] w fun e w' => e = .returned (.bool true) ∧ Below w.heap.size w w' := by
  go_enter Tryd.func21, Tryd.ntmps21
  go_wp2_with fail
  refine (SA.new 3 w hE (by decide) (by decide)).mono ?_
  rintro e w1 ⟨ab, rfl, s1⟩
  go_wp2_with fail
  refine (s1.add (A := 1) (ps' := [(1, 1)]) 0 rfl (by decide) rfl rfl).mono ?_
  rintro e w2 ⟨rfl, s2, k2⟩
  have s2a := s2.alloc (.cells #[.int .u32 1, .int .u32 0] 43)
  have hl2 := s2.hiLe.1
  have b2 := heap_alloc_new w2 (.cells #[.int .u32 1, .int .u32 0] 43)
  clear s1 s2 k2
  go_wp2_with fail
  refine (s2a.add (A := 1) (ps' := [(1, 1), (1, 1)]) 1 rfl (by decide) rfl rfl).mono ?_
  rintro e w3 ⟨rfl, s3, k3⟩
  have b3 := k3 _ _ _ _ hl2 b2 (by decide)
  have s3a := s3.alloc (.cells #[.int .u32 1, .int .u32 1] 43)
  have hl3 := s3.hiLe.1
  have b3a := (Keep.alloc w1.heap.size w3 (.cells #[.int .u32 1, .int .u32 1] 43)) _ _ _ _ hl2 b3 (by decide)
  have c3 := heap_alloc_new w3 (.cells #[.int .u32 1, .int .u32 1] 43)
  obtain ⟨x0, x1⟩ := blk2 b3a
  clear s2a b2 b3 s3 k3
  go_wp2_with fail
  refine (s3a.drop (A := 1) (ps' := [(1, 0), (1, 1)]) 0 rfl rfl).mono ?_
  rintro e w4 ⟨rfl, s4, k4⟩
  have b4 := k4 _ _ _ _ hl2 b3a (by decide)
  have c4 := k4 _ _ _ _ hl3 c3 (by decide)
  clear x0 x1 s3a b3a c3 k4
  go_wp2_with fail
  refine (s4.add (A := 2) (ps' := [(2, 1), (1, 1)]) 0 rfl (by decide) rfl rfl).mono ?_
  rintro e w5 ⟨rfl, s5, k5⟩
  have b5 := (Keep.alloc w1.heap.size w5 (.cells #[.int .u32 2, .int .u32 0] 43)) _ _ _ _ hl2 (k5 _ _ _ _ hl2 b4 (by decide)) (by decide)
  have c5 := (Keep.alloc w1.heap.size w5 (.cells #[.int .u32 2, .int .u32 0] 43)) _ _ _ _ hl3 (k5 _ _ _ _ hl3 c4 (by decide)) (by decide)
  obtain ⟨y0, y1⟩ := blk2 b5
  obtain ⟨z0, z1⟩ := blk2 c5
  have hfin := hid (s5.alloc (.cells #[.int .u32 2, .int .u32 0] 43)).below
  clear s4 b4 c4 k5 s5 b5 c5
  go_wp2_with fail
  go_ret
  exact ⟨rfl, hfin.out⟩

end Go.Proofs.YtjkiagjgnfaknaaDoor
