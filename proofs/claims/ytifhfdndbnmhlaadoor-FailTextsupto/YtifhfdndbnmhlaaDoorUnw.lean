/- What an error that was made here looks like in memory, and the contracts of the functions that make it, wrap it and take it apart; the conditions: the library's variable of the type error, and that it was not wrapped too often for one slice. -/
import Derived.Test.YtifhfdndbnmhlaaDoorMad
import Derived.Test.YtifhfdndbnmhlaaDoorSml
import Derived.Laws.AppendOwn
import Derived.OwnWalk
import Derived.Deep.AppendLies
namespace Go.Proofs.YtifhfdndbnmhlaaDoor
open Go.RowKit Go.Sort
set_option linter.unusedVariables false

/-- an error of this program's: the failure k c r below, the notes from the outermost on -/
def Chain (w : World) (k c r : Int) : Nat → List ByteArray → Prop
  | b, [] => w.cell? ⟨b, 0, none⟩ = some (.int .i64 k) ∧ w.cell? ⟨b, 1, none⟩ = some (.int .i64 c) ∧ w.cell? ⟨b, 2, none⟩ = some (.int .i64 r) ∧ w.cell? ⟨b, 4, none⟩ = some .nilIface
  | b, n :: ns => w.cell? ⟨b, 3, none⟩ = some (.string n) ∧ ∃ b', w.cell? ⟨b, 4, none⟩ = some (.iface 69 (.pointer (some ⟨b', 0, none⟩))) ∧ Chain w k c r b' ns
theorem Chain.gr {w w' : World} {k c r : Int} (hg : Gr w w') : ∀ {ns : List ByteArray} {b : Nat}, Chain w k c r b ns → Chain w' k c r b ns
  | [], b, ⟨h0, h1, h2, h4⟩ => ⟨hg.cell' h0, hg.cell' h1, hg.cell' h2, hg.cell' h4⟩
  | n :: ns, b, ⟨h3, b', h4, h5⟩ => ⟨hg.cell' h3, b', hg.cell' h4, h5.gr hg⟩
abbrev er (b : Nat) : Value := .iface 69 (.pointer (some ⟨b, 0, none⟩))

theorem of20_none (w : World) : Calls Tryd.prog 20 #[fl 0 0 0] w fun e w' => e = .returned .nilIface ∧ Gr w w' := by
  have hn : none3 0 0 0 = true := rfl
  go_enter Tryd.func20, Tryd.ntmps20
  go_wp2_with (go_at_call 28; refine (none28 0 0 0 _).mono ?_; rw [hn]; rintro e w1 ⟨rfl, hg⟩)
  go_ret
  exact ⟨rfl, ((Gr.refl w).alloc _).trans hg⟩
theorem of20 (k c r : Int) (w : World) (hn : none3 k c r = false) : Calls Tryd.prog 20 #[fl k c r] w fun e w' => ∃ b, e = .returned (er b) ∧ Chain w' k c r b [] ∧ Gr w w' := by
  go_enter Tryd.func20, Tryd.ntmps20
  go_wp2_with (go_at_call 28; refine (none28 k c r _).mono ?_; rw [hn]; rintro e w1 ⟨rfl, hg⟩; have k0 : w1.cell? ⟨w.heap.size, 0, none⟩ = some (.int .i64 k) := hg.cell' (by simp); have k1 : w1.cell? ⟨w.heap.size, 1, none⟩ = some (.int .i64 c) := hg.cell' (by simp); have k2 : w1.cell? ⟨w.heap.size, 2, none⟩ = some (.int .i64 r) := hg.cell' (by simp); have G : Hid (Gr w w1) := ((Gr.refl w).alloc _).trans hg; clear hg)
  go_ret
  exact ⟨w1.heap.size, rfl, ⟨by simp, by simp, by simp, by simp⟩, G.out.alloc _⟩
theorem wrap22_nil (s : ByteArray) (w : World) : Calls Tryd.prog 22 #[.nilIface, .string s] w fun e w' => e = .returned .nilIface ∧ Gr w w' := by
  go_enter Tryd.func22, Tryd.ntmps22
  go_wp2
  go_ret
  exact ⟨rfl, by repeat (first | exact Gr.refl _ | apply Gr.alloc | apply Gr.drew)⟩
theorem wrap22 (k c r : Int) (b : Nat) (ns : List ByteArray) (s : ByteArray) (w : World) (hC : Chain w k c r b ns) : Calls Tryd.prog 22 #[er b, .string s] w fun e w' => ∃ b', e = .returned (er b') ∧ Chain w' k c r b' (s :: ns) ∧ Gr w w' := by
  have HC : Hid _ := hC
  clear hC
  go_enter Tryd.func22, Tryd.ntmps22
  go_wp2
  go_ret
  exact ⟨w.heap.size, rfl, ⟨by simp, b, by simp, HC.out.gr ((Gr.refl w).alloc _)⟩, (Gr.refl w).alloc _⟩

theorem info_parts {t : Nat} {z : Value} {n m : Nat} (h : (Tryd.prog.info? t).map (fun i => (i.zero, i.size, i.bytes)) = some (some z, n, m)) : ∃ i, Tryd.prog.info? t = some i ∧ i.zero = some z ∧ i.size = n ∧ i.bytes = m := by
  cases hi : Tryd.prog.info? t with
  | none => rw [hi] at h; cases h
  | some i =>
    rw [hi] at h
    simp only [Option.map_some, Option.some.injEq, Prod.mk.injEq] at h
    exact ⟨i, rfl, h.1, h.2.1, h.2.2⟩
theorem info9 : (Tryd.prog.info? 9).map (fun i => (i.zero, i.size, i.bytes)) = some (some (.string ⟨#[]⟩), 1, 16) := by kernel_rfl
def lenOf : Value → Nat | .slice _ n _ => n | _ => 0
abbrev strs (l : List ByteArray) : List Value := l.map Value.string
theorem owns_grown {w w1 w2 : World} {B : Nat} {row : Option Nat} (h : Below B w w1) (hB : B ≤ w1.heap.size) (hg : w1.grownBy w2 row) (hr : ∀ k, row = some k → B ≤ k) : Below B w w2 := h.grown hg hB hr
theorem cell_one (w : World) (x : Value) (t : Nat) : ∀ (j : Nat) (u : Value), [x][j]? = some u → (w.alloc (.cells #[x] t)).cell? ((⟨w.heap.size, 0, none⟩ : Addr).add j) = some u := by
  intro j u h
  cases j with
  | zero => simp at h; subst h; simp [Addr.add]
  | succ j => simp at h
theorem owns_base {w : World} {base e size n c : Nat} {A : Option Addr} {xs : List Value} (h : w.ownsRow base e size (.slice A n c) n xs) : ∀ k, (Value.slice A n c).ownBlock = some k → base ≤ k := fun k hk => (h.lt k hk).1
theorem owns_gr {w w' : World} {base e size n c : Nat} {A : Option Addr} {xs : List Value} (h : w.ownsRow base e size (.slice A n c) n xs) (hg : Gr w w') : w'.ownsRow base e size (.slice A n c) n xs := by
  refine h.kept (row := none) ⟨hg.os, hg.tape, hg.output, hg.size, fun k hk _ => hg.below.block k hk⟩ ?_
  cases hb : (Value.slice A n c).ownBlock with
  | none => exact Or.inl rfl
  | some k => exact Or.inr (by simp)
theorem owns_but {w w' : World} {base e size n c q : Nat} {A : Option Addr} {xs : List Value} (h : w.ownsRow base e size (.slice A n c) n xs) (hg : w.grownBy w' (some q)) (hq : q < base) : w'.ownsRow base e size (.slice A n c) n xs := by
  refine h.kept hg ?_
  cases hb : (Value.slice A n c).ownBlock with
  | none => exact Or.inl rfl
  | some k => exact Or.inr (by have := owns_base h k hb; simp; omega)
theorem grown_set3 (w : World) (g : Nat) (x y z : Value) : w.grownBy (((w.setCell ⟨g, 0, none⟩ x).setCell ⟨g, 1, none⟩ y).setCell ⟨g, 2, none⟩ z).drew (some g) := by
  refine ⟨rfl, rfl, rfl, by simp [World.setCell, World.drew], fun k hk hne => ?_⟩
  have hk' : k ≠ g := fun e => hne (by rw [e])
  show ((((w.setCell ⟨g, 0, none⟩ x).setCell ⟨g, 1, none⟩ y).setCell ⟨g, 2, none⟩ z)).heap[k]? = _
  rw [Below.heap_setCell _ _ _ _ hk', Below.heap_setCell _ _ _ _ hk', Below.heap_setCell _ _ _ _ hk']
set_option maxRecDepth 20000 in
set_option maxHeartbeats 1000000 in
theorem unwrap37_nil (w : World) : Calls Tryd.prog 37 #[.nilIface] w fun e w' => e = .returned (.tuple #[.slice none 0 0, fl 0 0 0]) ∧ Gr w w' := by
  go_enter Tryd.func37, Tryd.ntmps37
  go_wp2_with (go_at_call 45; refine (made45_nil _).mono ?_; rintro e w1 ⟨rfl, hg⟩)
  have k0 : w1.cell? ⟨w.heap.size, 0, none⟩ = some (.int .i64 0) := hg.cell' (by simp)
  have k1 : w1.cell? ⟨w.heap.size, 1, none⟩ = some (.int .i64 0) := hg.cell' (by simp)
  have k2 : w1.cell? ⟨w.heap.size, 2, none⟩ = some (.int .i64 0) := hg.cell' (by simp)
  have z0 : w1.frozen? ⟨w.heap.size, 0, none⟩ = false := by rw [hg.below.frozen (by simp)]; simp
  have z1 : w1.frozen? ⟨w.heap.size, 1, none⟩ = false := by rw [hg.below.frozen (by simp)]; simp
  have z2 : w1.frozen? ⟨w.heap.size, 2, none⟩ = false := by rw [hg.below.frozen (by simp)]; simp
  have G : Hid (Gr w w1) := ((Gr.refl w).alloc _).trans hg
  clear hg
  refine wp_loop_rounds 1 ?_
  rw [rounds_succ]
  go_wp2
  refine bodyPost_ret (v := .tuple #[.slice none 0 0, fl 0 0 0]) ?_ rfl ⟨rfl, ?_⟩
  · simp [results, Tryd.results37, go_sem, k0, k1, k2]
  · exact ((G.out.setCell (Nat.le_refl _) _).setCell (Nat.le_refl _) _).setCell (Nat.le_refl _) _
set_option maxRecDepth 20000 in
set_option maxHeartbeats 1000000 in
theorem unwrap37 (k c r : Int) (b : Nat) (ns : List ByteArray) (w : World) (hE : Et w) (hC : Chain w k c r b ns) (hl : ns.length ≤ 1048576) :
    Calls Tryd.prog 37 #[er b] w fun e w' => ∃ A cp, e = .returned (.tuple #[.slice A ns.length cp, fl k c r]) ∧ w'.ownsRow (w.heap.size + 1) 9 1 (.slice A ns.length cp) ns.length (strs ns) ∧ Gr w w' := by
  obtain ⟨i0, hi, hz0, hz1, hz2⟩ := info_parts info9
  have HE : Hid (Et w) := hE
  have HC : Hid (Chain w k c r b ns) := hC
  clear hE hC
  go_enter Tryd.func37, Tryd.ntmps37
  go_wp2_with (go_at_call 45; refine (made45_hit ⟨b, 0, none⟩ _ (HE.out.gr ((Gr.refl w).alloc _))).mono ?_; rintro e w1 ⟨rfl, hg⟩)
  go_loopw [4, 5] (fun t q wr => ∃ (p cp b' : Nat) (A : Option Addr), t = .slice A p cp ∧ q = .pointer (some ⟨b', 0, none⟩) ∧ p ≤ ns.length ∧ Hid (Chain w k c r b' (ns.drop p)) ∧ Hid (wr.ownsRow (w.heap.size + 1) 9 1 (.slice A p cp) p (strs (ns.take p))) ∧ Hid (Below (w.heap.size + 1) (w.alloc (.cells #[.int .i64 0, .int .i64 0, .int .i64 0] 23)) wr)) (fun t _ _ => ns.length - lenOf t)
  case atStart => exact ⟨0, 0, b, none, rfl, rfl, Nat.zero_le _, HC.out, World.ownsRow_nil _ _ _ _, by show Below _ _ _; have := hg.below; simpa using this⟩
  case round =>
    obtain ⟨p, cp, b', A, rfl, rfl, hp, HCh, HO, HB⟩ := hrel
    have Gw : Hid (Gr w wr) := by
      have h1 : Below (w.heap.size + 1) (w.alloc (.cells #[.int .i64 0, .int .i64 0, .int .i64 0] 23)) wr := HB.out
      exact ((Gr.refl w).alloc _).below.trans (h1.mono (Nat.le_succ _))
    cases hd : ns.drop p with
    | nil =>
      have hpe : p = ns.length := by have := List.drop_eq_nil_iff.1 hd; omega
      subst hpe
      rw [hd] at HCh
      have HO2 : Hid (wr.ownsRow (w.heap.size + 1) 9 1 (.slice A ns.length cp) ns.length (strs ns)) := by
        show World.ownsRow _ _ _ _ _ _ _
        have := HO.out
        rwa [List.take_length] at this
      obtain ⟨f0, f1, f2, f4⟩ := HCh.out.gr Gw.out
      have k0 : wr.cell? ⟨w.heap.size, 0, none⟩ = some (.int .i64 0) := by rw [HB.out.cell (by simp)]; simp
      have k1 : wr.cell? ⟨w.heap.size, 1, none⟩ = some (.int .i64 0) := by rw [HB.out.cell (by simp)]; simp
      have k2 : wr.cell? ⟨w.heap.size, 2, none⟩ = some (.int .i64 0) := by rw [HB.out.cell (by simp)]; simp
      have z0 : wr.frozen? ⟨w.heap.size, 0, none⟩ = false := by rw [HB.out.frozen (by simp)]; simp
      have z1 : wr.frozen? ⟨w.heap.size, 1, none⟩ = false := by rw [HB.out.frozen (by simp)]; simp
      have z2 : wr.frozen? ⟨w.heap.size, 2, none⟩ = false := by rw [HB.out.frozen (by simp)]; simp
      clear HCh hd HO
      go_wp2
      go_region
      go_wp2
      refine bodyPost_ret (v := .tuple #[.slice A ns.length cp, fl k c r]) ?_ rfl ⟨A, cp, rfl, ?_, ?_⟩
      · simp [results, Tryd.results37, go_sem, k0, k1, k2]
      · exact owns_but HO2.out (grown_set3 wr w.heap.size _ _ _) (Nat.lt_succ_self _)
      · exact (((Gw.out.setCell (Nat.le_refl _) _).setCell (Nat.le_refl _) _).setCell (Nat.le_refl _) _).drew
    | cons n rest =>
      rw [hd] at HCh
      obtain ⟨g3, b2, g4, hC2⟩ := HCh.out
      have f3 : wr.cell? ⟨b', 3, none⟩ = some (.string n) := Gw.out.cell' g3
      have f4 : wr.cell? ⟨b', 4, none⟩ = some (.iface 69 (.pointer (some ⟨b2, 0, none⟩))) := Gw.out.cell' g4
      have hplt : p < ns.length := by
        rcases Nat.lt_or_ge p ns.length with h | h
        · exact h
        · rw [List.drop_of_length_le h] at hd; cases hd
      have HC2 : Hid (Chain w k c r b2 (ns.drop (p + 1))) := by
        show Chain _ _ _ _ _ _
        have : ns.drop (p + 1) = rest := by rw [← List.drop_drop, hd]; rfl
        rw [this]; exact hC2
      have HT : Hid (strs (ns.take (p + 1)) = strs (ns.take p) ++ [.string n]) := by
        show _ = _
        have e : ns[p] = n := by
          have h1 : (ns.drop p)[0]? = some n := by rw [hd]; rfl
          rw [List.getElem?_drop, Nat.add_zero, List.getElem?_eq_getElem hplt] at h1
          exact Option.some.inj h1
        rw [List.take_succ_eq_append_getElem hplt, e]
        simp [strs]
      have G4 : Hid (w.cell? ⟨b', 4, none⟩ = some (.iface 69 (.pointer (some ⟨b2, 0, none⟩)))) := g4
      have hws : w.heap.size + 1 ≤ wr.heap.size := by have := HB.out.size; simpa using this
      clear HCh hd g3 g4 hC2
      go_wp2_with (first
        | (at_builtin; refine wpList_append_lies _ rfl _ _ 45 rfl (w.heap.size + 1) 9 i0 (.string ⟨#[]⟩) 1 16 Tryd.underlying45 hi hz0 hz1 hz2 rfl (by decide) _ _ _ rfl (HO.out.alloc _) ⟨wr.heap.size, 0, none⟩ 1 1 [.string n] rfl rfl (cell_one _ _ _) (by simp [Value.oneCell']) (by decide) (by unfold maxLen; omega) (by omega) (by simp; omega) _ rfl ?_; intro g1 c1 w3 hown3 hgrow hat hlt3; have B3 : Hid (Below (w.heap.size + 1) (w.alloc (.cells #[.int .i64 0, .int .i64 0, .int .i64 0] 23)) w3) := (HB.out.alloc hws _).grown hgrow (by simp; omega) (fun j hj => owns_base HO.out j hj); have G3 : Hid (Gr w w3) := ((Gr.refl w).alloc _).below.trans (B3.out.mono (Nat.le_succ _)); have O3 : Hid _ := hown3; have f44 : w3.cell? ⟨b', 4, none⟩ = some (.iface 69 (.pointer (some ⟨b2, 0, none⟩))) := G3.out.cell' G4.out; clear hown3 hgrow hat)
        | (go_at_call 45; refine (made45_hit ⟨b2, 0, none⟩ _ (HE.out.gr G3.out)).mono ?_; rintro e w4 ⟨rfl, hg4⟩))
      go_roundw
      case rel =>
        refine ⟨p + 1, c1, b2, some ⟨g1, 0, none⟩, rfl, rfl, by omega, HC2.out, ?_, ?_⟩
        · show World.ownsRow _ _ _ _ _ _ _
          rw [HT.out]
          exact owns_gr O3.out hg4
        · show Below _ _ _
          exact B3.out.trans (hg4.below.mono (by have := B3.out.size; simpa using this))
      case measure => simp [lenOf]; omega
end Go.Proofs.YtifhfdndbnmhlaaDoor
