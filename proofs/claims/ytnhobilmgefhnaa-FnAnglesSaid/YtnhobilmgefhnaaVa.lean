/- A law of our own: a range over a function whose iterator makes the memory that it yields: each round knows what lies behind the value that it is handed. -/
import Derived.Test.YtnhobilmgefhnaaProg
import Derived.RangeFuncNested
import Derived.RangeFuncWrites
namespace Go.Proofs.Ytnhobilmgefhnaa
open Go Go.RowKit

/-- Nothing of the world that there was has turned. -/
def Fresh (A B : World) : Prop := Below A.heap.size A B
theorem fresh_grown {A B : World} (h : Fresh A B) : A.grownBy B none := ⟨h.os, h.tape, h.output, h.size, fun k hk _ => h.block k hk⟩
theorem own_fresh {β : Type} {B : Nat} {I : β → World → Prop} (hI : OwnFrom B I) {s : β} {W W' : World} (h : I s W) (hf : Fresh W W') : I s W' :=
  hI s W W' none h (fresh_grown hf) (fun r e => by cases e)

/-- The contract of such an iterator: Y says what holds, in the world of the call of yield, of what is yielded behind what has come. -/
def SeqMade {α : Type} (F : Fence) (n : Nat) (P : Program) (g : Nat) (lb : Array Value) (encs : α → Array Value) (Kp : World → World → Prop) (Y : List α → α → World → Prop) (S Sp : List α → Prop) (w : World) : Prop :=
  ∀ (l : Nat) (J Jx : List α → World → Prop) (W : World), Below w.heap.size w W → (∀ s A B, J s A → Fresh A B → J s B) → (∀ s A B, Jx s A → Fresh A B → Jx s B) →
    (∀ pre x W1, J pre W1 → Y pre x W1 → YieldAt F (n - 1) P l (encs x) W1 fun e W' =>
      (e = .returned (.bool true) ∧ J (pre ++ [x]) W' ∧ Kp W1 W') ∨ (e = .returned (.bool false) ∧ Jx (pre ++ [x]) W')) →
    J [] W →
    CallsIn F n P g (#[.func (.yield l) #[] #[]] ++ lb) W fun e W' => (∃ v, e = .returned v) ∧ ((∃ xs, S xs ∧ J xs W') ∨ (∃ pre, Sp pre ∧ Jx pre W'))

/-- The loop's record and the block of the rounds' deferred calls, as they lie while the loop is under way. -/
structure Books (b : Nat) (r : Loop) (W : World) : Prop where
  lp : W.heap[b + 1]? = some (.loop r)
  dfr : W.heap[b]? = some (.deferred (some []))
theorem Books.kept {b : Nat} {r : Loop} {A B : World} (h : Books b r A) (hk : KeepsFrom b A B) : Books b r B :=
  ⟨hk.same _ _ (by omega) h.lp rfl, hk.same _ _ (Nat.le_refl _) h.dfr rfl⟩
theorem Books.fresh {b : Nat} {r : Loop} {A B : World} (h : Books b r A) (hf : Fresh A B) : Books b r B :=
  ⟨(hf.block _ (Array.getElem?_eq_some_iff.1 h.lp).1).trans h.lp, (hf.block _ (Array.getElem?_eq_some_iff.1 h.dfr).1).trans h.dfr⟩
theorem Books.put {b : Nat} {r : Loop} {A : World} (h : Books b r A) (r' : Loop) : Books b r' (A.putObj (b + 1) (.loop r')) :=
  ⟨World.putObj_heap_same (Array.getElem?_eq_some_iff.1 h.lp).1, (World.putObj_heap_other (by omega)).trans h.dfr⟩

section law
variable {F : Fence} {n : Nat} {P : Program}

/-- One round, out of the walk of the body. -/
theorem round_made {α : Type} {fn : FuncId} {a : Act} {ps : Array Tmp} {assign body : Code} {w : World} (hfn : F.fn fn) (mk : LoopState → Option Code → Loop)
    (hmk : mk = fun st pe => { state := st, pending := pe, fn, tmps := a.tmps, params := ps, assign, body, defers := w.heap.size })
    {encs : α → Array Value} {Kp : World → World → Prop} {Y : List α → α → World → Prop} {m : Nat}
    (hKt : ∀ {A B C : World}, Kp A B → Kp B C → Kp A C) (hKb : ∀ (W : World) (l : Nat) (o o' : Obj), w.heap.size ≤ l → W.heap[l]? = some o → o.isCells = false → o.isWalk = false → Kp W (W.putObj l o')) (hps : ∀ x, (encs x).size = ps.size)
    {I : List α → World → Prop} {Ix : Code → List α → World → Prop} (hI : OwnFrom w.heap.size I) (hIx : ∀ c, OwnFrom w.heap.size (Ix c)) (hY : ∀ pre x, OwnFrom w.heap.size (fun (_ : Unit) W => Y pre x W)) (a₁ : α → Act)
    (hassign : ∀ (l : Nat) (x : α) (W : World) (K : Act → World → Prop), K (a₁ x) W →
      assign.wpIn (F.inRound l) m P (Exit.then K (fun _ _ _ => False)) { tmps := (ps.zip (encs x)).foldl (fun t (p, v) => t.setIfInBounds p v) a.tmps, defers := [] } W)
    (hbody : ∀ (l : Nat) (pre : List α) (x : α) (W : World), I pre W → Y pre x W → body.wpIn (F.inRound l) m P (ownPostG w.heap.size Kp I Ix (pre ++ [x]) W) (a₁ x) W)
    (pre : List α) (x : α) (W : World) (hi : I pre W) (hb : Books w.heap.size (mk .ready none) W) (hy : Y pre x W) :
    YieldAt F m P (w.heap.size + 1) (encs x) W fun e W' =>
      (e = .returned (.bool true) ∧ (I (pre ++ [x]) W' ∧ Books w.heap.size (mk .ready none) W') ∧ Kp W W') ∨
      (e = .returned (.bool false) ∧ ∃ c, Ix c (pre ++ [x]) W' ∧ Books w.heap.size (mk .done (some c)) W') := by
  have hrun := run_yield (P := P) (args := encs x) hb.lp (by rw [hmk]; exact hps x)
  rw [hmk] at hrun
  have hbeg := run_beginRound (P := P) hb.lp (by rw [hmk])
  refine ⟨fn, _, assign, body, hrun, roundIn_of_wpIn hfn (hassign _ x W _ ⟨_, hbeg, ?_⟩)⟩
  have busy : Books w.heap.size (mk .busy none) (W.putObj (w.heap.size + 1) (.loop { mk .ready none with state := .busy })) := by
    have := hb.put (mk .busy none)
    rw [hmk] at this ⊢
    exact this
  have kp0 : Kp W (W.putObj (w.heap.size + 1) (.loop { mk .ready none with state := .busy })) := hKb _ _ _ _ (by omega) hb.lp rfl rfl
  have hw := hbody (w.heap.size + 1) pre x _ (hI.putObj (.loop { mk .ready none with state := .busy }) hi (by omega) hb.lp rfl) ((hY pre x).putObj (s := ()) (.loop { mk .ready none with state := .busy }) hy (by omega) hb.lp rfl)
  revert busy kp0 hw
  generalize W.putObj (w.heap.size + 1) (.loop { mk .ready none with state := .busy }) = V
  intro busy kp0 hw
  -- how the round's record is shut
  have shut : ∀ (jump : Option Code) (X : World), KeepsFrom w.heap.size V X →
      (Instr.endRound (w.heap.size + 1) jump).run P X = .ok (.bool jump.isNone) (X.putObj (w.heap.size + 1) (.loop (mk (if jump.isNone then .ready else .done) jump))) ∧
      X.heap[w.heap.size + 1]? = some (.loop (mk .busy none)) ∧ Books w.heap.size (mk (if jump.isNone then .ready else .done) jump) (X.putObj (w.heap.size + 1) (.loop (mk (if jump.isNone then .ready else .done) jump))) := fun jump X hk => by
    have hX := busy.kept hk
    have he := run_endRound (P := P) jump hX.lp
    refine ⟨?_, hX.lp, hX.put _⟩
    rw [hmk] at he ⊢
    exact he
  refine wpIn_mono hw ?_
  rintro e a3 X hp
  rcases e with _ | id | t | _ | ch | _
  case normal =>
    obtain ⟨hk, hkp, hi3⟩ := hp
    obtain ⟨hr, hl, hB⟩ := shut none X hk
    exact ⟨_, _, hr, .inl ⟨rfl, ⟨hI.putObj _ hi3 (by omega) hl rfl, hB⟩, hKt kp0 (hKt hkp (hKb _ _ _ _ (by omega) hl rfl rfl))⟩⟩
  case ret =>
    obtain ⟨hr, hl, hB⟩ := shut (some .ret) X hp.1
    exact ⟨_, _, hr, .inr ⟨rfl, .ret, (hIx _).putObj _ hp.2 (by omega) hl rfl, hB⟩⟩
  case exit =>
    obtain ⟨hr, hl, hB⟩ := shut (some (.exit id)) X hp.1
    exact ⟨_, _, hr, .inr ⟨rfl, _, (hIx _).putObj _ hp.2 (by omega) hl rfl, hB⟩⟩
  case goto =>
    obtain ⟨hr, hl, hB⟩ := shut (some (.goto t)) X hp.1
    exact ⟨_, _, hr, .inr ⟨rfl, _, (hIx _).putObj _ hp.2 (by omega) hl rfl, hB⟩⟩
  case panic => exact hp.elim
  case outgrown => exact hp.elim

/-- The statement 'for .. := range g { .. }' over such an iterator. -/
theorem wpIn_rangeFunc_made {α : Type} {g : Operand} {ps : Array Tmp} {assign body : Code} {Q : Exit → Act → World → Prop} {a : Act} {w : World}
    (hro : F.round = none) (h1 : 1 ≤ n) {gf : Nat} {lb : Array Value} (hg : a.eval g = .func (.func gf) #[] lb) (hFg : F.fn gf) (eg : ∀ args w, (callFunc gf args).run P w = .ok (.enter gf args) w)
    {encs : α → Array Value} {Kp : World → World → Prop} {Y : List α → α → World → Prop} {S Sp : List α → Prop} {w0 : World} (hseq : SeqMade F (n - 1) P gf lb encs Kp Y S Sp w0)
    (hKt : ∀ {A B C : World}, Kp A B → Kp B C → Kp A C) (hKb : ∀ (W : World) (l : Nat) (o o' : Obj), w.heap.size ≤ l → W.heap[l]? = some o → o.isCells = false → o.isWalk = false → Kp W (W.putObj l o')) (hb0 : Below w0.heap.size w0 w) (hps : ∀ x, (encs x).size = ps.size)
    (I : List α → World → Prop) (Ix : Code → List α → World → Prop) (hI : OwnFrom w.heap.size I) (hIx : ∀ c, OwnFrom w.heap.size (Ix c)) (hY : ∀ pre x, OwnFrom w.heap.size (fun (_ : Unit) W => Y pre x W)) (h0 : I [] w) (a₁ : α → Act)
    (hassign : ∀ (l : Nat) (x : α) (W : World) (K : Act → World → Prop), K (a₁ x) W →
      assign.wpIn (F.inRound l) (n - 1 - 1) P (Exit.then K (fun _ _ _ => False)) { tmps := (ps.zip (encs x)).foldl (fun t (p, v) => t.setIfInBounds p v) a.tmps, defers := [] } W)
    (hbody : ∀ (l : Nat) (pre : List α) (x : α) (W : World), I pre W → Y pre x W → body.wpIn (F.inRound l) (n - 1 - 1) P (ownPostG w.heap.size Kp I Ix (pre ++ [x]) W) (a₁ x) W)
    (hdone : ∀ (D : Nat) (xs : List α) (W : World), w.heap.size ≤ D → S xs → I xs W → W.heap[D]? = some (.deferred (some [])) → Q .normal { a with defers := { target := .collected D, args := #[] } :: a.defers } W)
    (hstop : ∀ (D : Nat) (c : Code) (pre : List α) (W : World), w.heap.size ≤ D → Sp pre → Ix c pre W → W.heap[D]? = some (.deferred (some [])) → c.wpIn F n P Q { a with defers := { target := .collected D, args := #[] } :: a.defers } W) :
    (Code.rangeFunc g ps assign body).wpIn F n P Q a w := by
  refine wpIn_rangeFunc fun fn hfn => ?_
  rw [hro]
  obtain ⟨mk, hmk⟩ : ∃ mk : LoopState → Option Code → Loop, mk = fun st pe => { state := st, pending := pe, fn, tmps := a.tmps, params := ps, assign, body, defers := w.heap.size } := ⟨_, rfl⟩
  have hen := run_enterLoop_outer (P := P) (w := w) fn a.tmps ps assign body
  have hB : Books w.heap.size (mk .ready none) ((w.alloc (.deferred (some []))).alloc (.loop (mk .ready none))) := by
    refine ⟨?_, (Below.heap_alloc _ _ _ (by simp)).trans (World.alloc_heap_new w _)⟩
    have := World.alloc_heap_new (w.alloc (.deferred (some []))) (.loop (mk .ready none))
    rwa [World.size_alloc] at this
  have hW0 : I [] ((w.alloc (.deferred (some []))).alloc (.loop (mk .ready none))) := hI.alloc _ (hI.alloc _ h0)
  have hb1 : Below w0.heap.size w0 ((w.alloc (.deferred (some []))).alloc (.loop (mk .ready none))) := (hb0.alloc hb0.size _).alloc (by have := hb0.size; simp; omega) _
  have hen' : (Instr.enterLoop fn a.tmps ps assign body none).run P w = .ok (w.heap.size + 1, [{ target := .collected w.heap.size, args := #[] }]) ((w.alloc (.deferred (some []))).alloc (.loop (mk .ready none))) := by
    rw [hmk]; exact hen
  revert hB hW0 hb1 hen'
  generalize (w.alloc (.deferred (some []))).alloc (.loop (mk .ready none)) = V
  intro hB hW0 hb1 hen'
  refine ⟨w.heap.size + 1, [{ target := .collected w.heap.size, args := #[] }], V, { target := .fn (.func gf) lb, args := #[.func (.yield (w.heap.size + 1)) #[] #[]] }, V, gf, #[.func (.yield (w.heap.size + 1)) #[] #[]] ++ lb, V, hen', ?_, ?_, ?_, fun _ => h1, ?_⟩
  · simp only [resolve, hg]
    simp [go_sem]
  · intro f' hf'
    simp [Target.leads] at hf'
    subst hf'
    exact hFg
  · simp [invoke, go_sem, eg]
  refine (hseq (w.heap.size + 1) (fun pre W => I pre W ∧ Books w.heap.size (mk .ready none) W) (fun pre W => ∃ c, Ix c pre W ∧ Books w.heap.size (mk .done (some c)) W) V hb1 ?_ ?_ ?_ ⟨hW0, hB⟩).mono ?_
  · exact fun s A B h hf => ⟨own_fresh hI h.1 hf, h.2.fresh hf⟩
  · rintro s A B ⟨c, hc, hk⟩ hf
    exact ⟨c, own_fresh (hIx c) hc hf, hk.fresh hf⟩
  · rintro pre x W ⟨hi, hb⟩ hy
    exact round_made (Kp := Kp) hfn mk hmk hKt hKb hps hI hIx hY a₁ hassign hbody pre x W hi hb hy
  · rintro e X ⟨⟨v, rfl⟩, ⟨xs, hS, hi, hb⟩ | ⟨pre, hSp, c, hi, hb⟩⟩
    · have he := run_endLoop (P := P) hb.lp (by rw [hmk]; simp)
      have hp : (mk .ready none).pending = none := by rw [hmk]
      rw [hp] at he
      refine ⟨none, _, he, hdone _ xs _ (Nat.le_refl _) hS (hI.putObj _ hi (by omega) hb.lp rfl) ((World.putObj_heap_other (by omega)).trans hb.dfr)⟩
    · have he := run_endLoop (P := P) hb.lp (by rw [hmk]; simp)
      have hp : (mk .done (some c)).pending = some c := by rw [hmk]
      rw [hp] at he
      refine ⟨some c, _, he, hstop _ c pre _ (Nat.le_refl _) hSp ((hIx c).putObj _ hi (by omega) hb.lp rfl) ((World.putObj_heap_other (by omega)).trans hb.dfr)⟩
end law
end Go.Proofs.Ytnhobilmgefhnaa
